/-
  No cell of these rows narrows 'for every input' (looked for: loops, veiled, ifaces, maps, wideKeys, modest, calm, conditions, laid).
  DERIVED. THE GIVEN ROWS OF THIS SEAT. 10 by the template 'for every input the law returns true; each argument reads behind the call as it read before'; 0 by the template 'total and deterministic' (their statements: YtgjnhfciphiciaaTotals.lean).
  GIVEN WITH THE SEED: the statements are not yours to turn. If you find one false, say at which input.
  Laid BY PROGRAM, IN A SANDBOX (cutbox-rows.mjs): the forced cells as the released guide's own fill.sh prints them over the translation f1e2453bf7d984b2… (all of the seat's roots in one cut). By AI agents, Wed Nov 11 2026. No macro, syntax, notation, axiom, sorry.
-/
import Derived.Test.YtgjnhfciphiciaaChecked
import GoSem.Claim
import GoSem.ClaimJoined
import GoSem.ClaimMapViews
import Derived.JoinedTies
import Derived.KernelRfl
namespace Go.Proofs.Ytgjnhfciphiciaa
/- THE CELL 'sum', in the pinned program and in every row, IS THE sha256 OF THE DUMP (.gsa) THAT YtgjnhfciphiciaaProg.lean LOADS. Nothing in Lean hashes anything: it is a label: what it is worth is what the hold of that sum in a sandbox is worth. -/
noncomputable def Try.pinned : Pinned := { name := "ytgjnhfciphiciaa", sum := "f1e2453bf7d984b2b111959c4478a57879eeacc1d90420f9844810c0cdd8951c", checked := Try.checked }
namespace Rows
def none {H : Type} : Left H := { results := [], args := [] }

/-- 'laws.FnRareCount': WHATEVER THE INPUT: true; the input reads as it did. -/
def fnRareCountSpec : ChangeSpec := { name := "fnRareCount", fn := fun _ => fun
  | [d] => { results := [.lit (.bool true)], args := [d] }
  | _ => none }
def fnRareCountRow : OpenClaim := { program := "ytgjnhfciphiciaa", sum := "f1e2453bf7d984b2b111959c4478a57879eeacc1d90420f9844810c0cdd8951c", func := "loop.example/feedswarm/laws.FnRareCount", spec := "fnRareCount", unfollowed := true, recurses := true, apart := false }
def FnRareCountSaid : Prop := fnRareCountRow.holds Try.pinned (OpenSpec.ofChange fnRareCountSpec)

/-- ITS FALSE NEIGHBOUR: 'it returns false'. Refute it at one input. -/
def fnRareCountWrong : ChangeSpec := { name := "fnRareCount", fn := fun _ => fun
  | [d] => { results := [.lit (.bool false)], args := [d] }
  | _ => none }
def FnRareCountWrongFalsely : Prop := fnRareCountRow.holds Try.pinned (OpenSpec.ofChange fnRareCountWrong)

/-- 'laws.FnRareOrder': WHATEVER THE INPUT: true; the input reads as it did. -/
def fnRareOrderSpec : ChangeSpec := { name := "fnRareOrder", fn := fun _ => fun
  | [d] => { results := [.lit (.bool true)], args := [d] }
  | _ => none }
def fnRareOrderRow : OpenClaim := { program := "ytgjnhfciphiciaa", sum := "f1e2453bf7d984b2b111959c4478a57879eeacc1d90420f9844810c0cdd8951c", func := "loop.example/feedswarm/laws.FnRareOrder", spec := "fnRareOrder", unfollowed := true, recurses := true, apart := false }
def FnRareOrderSaid : Prop := fnRareOrderRow.holds Try.pinned (OpenSpec.ofChange fnRareOrderSpec)

/-- ITS FALSE NEIGHBOUR: 'it returns false'. Refute it at one input. -/
def fnRareOrderWrong : ChangeSpec := { name := "fnRareOrder", fn := fun _ => fun
  | [d] => { results := [.lit (.bool false)], args := [d] }
  | _ => none }
def FnRareOrderWrongFalsely : Prop := fnRareOrderRow.holds Try.pinned (OpenSpec.ofChange fnRareOrderWrong)

/-- 'laws.FnRareWanted': WHATEVER THE INPUT: true; the input reads as it did. -/
def fnRareWantedSpec : ChangeSpec := { name := "fnRareWanted", fn := fun _ => fun
  | [d] => { results := [.lit (.bool true)], args := [d] }
  | _ => none }
def fnRareWantedRow : OpenClaim := { program := "ytgjnhfciphiciaa", sum := "f1e2453bf7d984b2b111959c4478a57879eeacc1d90420f9844810c0cdd8951c", func := "loop.example/feedswarm/laws.FnRareWanted", spec := "fnRareWanted", unfollowed := true, recurses := true, apart := false }
def FnRareWantedSaid : Prop := fnRareWantedRow.holds Try.pinned (OpenSpec.ofChange fnRareWantedSpec)

/-- ITS FALSE NEIGHBOUR: 'it returns false'. Refute it at one input. -/
def fnRareWantedWrong : ChangeSpec := { name := "fnRareWanted", fn := fun _ => fun
  | [d] => { results := [.lit (.bool false)], args := [d] }
  | _ => none }
def FnRareWantedWrongFalsely : Prop := fnRareWantedRow.holds Try.pinned (OpenSpec.ofChange fnRareWantedWrong)

/-- 'laws.FnRarePick': WHATEVER THE INPUT: true; the input reads as it did. -/
def fnRarePickSpec : ChangeSpec := { name := "fnRarePick", fn := fun _ => fun
  | [d] => { results := [.lit (.bool true)], args := [d] }
  | _ => none }
def fnRarePickRow : OpenClaim := { program := "ytgjnhfciphiciaa", sum := "f1e2453bf7d984b2b111959c4478a57879eeacc1d90420f9844810c0cdd8951c", func := "loop.example/feedswarm/laws.FnRarePick", spec := "fnRarePick", unfollowed := true, recurses := true, apart := false }
def FnRarePickSaid : Prop := fnRarePickRow.holds Try.pinned (OpenSpec.ofChange fnRarePickSpec)

/-- ITS FALSE NEIGHBOUR: 'it returns false'. Refute it at one input. -/
def fnRarePickWrong : ChangeSpec := { name := "fnRarePick", fn := fun _ => fun
  | [d] => { results := [.lit (.bool false)], args := [d] }
  | _ => none }
def FnRarePickWrongFalsely : Prop := fnRarePickRow.holds Try.pinned (OpenSpec.ofChange fnRarePickWrong)

/-- 'laws.FnRarePickLeast': WHATEVER THE INPUT: true; the input reads as it did. -/
def fnRarePickLeastSpec : ChangeSpec := { name := "fnRarePickLeast", fn := fun _ => fun
  | [d] => { results := [.lit (.bool true)], args := [d] }
  | _ => none }
def fnRarePickLeastRow : OpenClaim := { program := "ytgjnhfciphiciaa", sum := "f1e2453bf7d984b2b111959c4478a57879eeacc1d90420f9844810c0cdd8951c", func := "loop.example/feedswarm/laws.FnRarePickLeast", spec := "fnRarePickLeast", unfollowed := true, recurses := true, apart := false }
def FnRarePickLeastSaid : Prop := fnRarePickLeastRow.holds Try.pinned (OpenSpec.ofChange fnRarePickLeastSpec)

/-- ITS FALSE NEIGHBOUR: 'it returns false'. Refute it at one input. -/
def fnRarePickLeastWrong : ChangeSpec := { name := "fnRarePickLeast", fn := fun _ => fun
  | [d] => { results := [.lit (.bool false)], args := [d] }
  | _ => none }
def FnRarePickLeastWrongFalsely : Prop := fnRarePickLeastRow.holds Try.pinned (OpenSpec.ofChange fnRarePickLeastWrong)

/-- 'laws.FnRareWhole': WHATEVER THE INPUT: true; the input reads as it did. -/
def fnRareWholeSpec : ChangeSpec := { name := "fnRareWhole", fn := fun _ => fun
  | [d] => { results := [.lit (.bool true)], args := [d] }
  | _ => none }
def fnRareWholeRow : OpenClaim := { program := "ytgjnhfciphiciaa", sum := "f1e2453bf7d984b2b111959c4478a57879eeacc1d90420f9844810c0cdd8951c", func := "loop.example/feedswarm/laws.FnRareWhole", spec := "fnRareWhole", unfollowed := true, recurses := true, apart := false }
def FnRareWholeSaid : Prop := fnRareWholeRow.holds Try.pinned (OpenSpec.ofChange fnRareWholeSpec)

/-- ITS FALSE NEIGHBOUR: 'it returns false'. Refute it at one input. -/
def fnRareWholeWrong : ChangeSpec := { name := "fnRareWhole", fn := fun _ => fun
  | [d] => { results := [.lit (.bool false)], args := [d] }
  | _ => none }
def FnRareWholeWrongFalsely : Prop := fnRareWholeRow.holds Try.pinned (OpenSpec.ofChange fnRareWholeWrong)

/-- 'laws.FnRareMore': WHATEVER THE INPUT: true; the input reads as it did. -/
def fnRareMoreSpec : ChangeSpec := { name := "fnRareMore", fn := fun _ => fun
  | [d1, d2] => { results := [.lit (.bool true)], args := [d1, d2] }
  | _ => none }
def fnRareMoreRow : OpenClaim := { program := "ytgjnhfciphiciaa", sum := "f1e2453bf7d984b2b111959c4478a57879eeacc1d90420f9844810c0cdd8951c", func := "loop.example/feedswarm/laws.FnRareMore", spec := "fnRareMore", unfollowed := true, recurses := true, apart := false }
def FnRareMoreSaid : Prop := fnRareMoreRow.holds Try.pinned (OpenSpec.ofChange fnRareMoreSpec)

/-- ITS FALSE NEIGHBOUR: 'it returns false'. Refute it at one input. -/
def fnRareMoreWrong : ChangeSpec := { name := "fnRareMore", fn := fun _ => fun
  | [d1, d2] => { results := [.lit (.bool false)], args := [d1, d2] }
  | _ => none }
def FnRareMoreWrongFalsely : Prop := fnRareMoreRow.holds Try.pinned (OpenSpec.ofChange fnRareMoreWrong)

/-- 'laws.FnRareMine': WHATEVER THE INPUT: true; the input reads as it did. -/
def fnRareMineSpec : ChangeSpec := { name := "fnRareMine", fn := fun _ => fun
  | [d] => { results := [.lit (.bool true)], args := [d] }
  | _ => none }
def fnRareMineRow : OpenClaim := { program := "ytgjnhfciphiciaa", sum := "f1e2453bf7d984b2b111959c4478a57879eeacc1d90420f9844810c0cdd8951c", func := "loop.example/feedswarm/laws.FnRareMine", spec := "fnRareMine", unfollowed := true, recurses := true, apart := false }
def FnRareMineSaid : Prop := fnRareMineRow.holds Try.pinned (OpenSpec.ofChange fnRareMineSpec)

/-- ITS FALSE NEIGHBOUR: 'it returns false'. Refute it at one input. -/
def fnRareMineWrong : ChangeSpec := { name := "fnRareMine", fn := fun _ => fun
  | [d] => { results := [.lit (.bool false)], args := [d] }
  | _ => none }
def FnRareMineWrongFalsely : Prop := fnRareMineRow.holds Try.pinned (OpenSpec.ofChange fnRareMineWrong)

/-- 'laws.FnRareGot': WHATEVER THE INPUT: true; the input reads as it did. -/
def fnRareGotSpec : ChangeSpec := { name := "fnRareGot", fn := fun _ => fun
  | [d1, d2] => { results := [.lit (.bool true)], args := [d1, d2] }
  | _ => none }
def fnRareGotRow : OpenClaim := { program := "ytgjnhfciphiciaa", sum := "f1e2453bf7d984b2b111959c4478a57879eeacc1d90420f9844810c0cdd8951c", func := "loop.example/feedswarm/laws.FnRareGot", spec := "fnRareGot", unfollowed := true, recurses := true, apart := false }
def FnRareGotSaid : Prop := fnRareGotRow.holds Try.pinned (OpenSpec.ofChange fnRareGotSpec)

/-- ITS FALSE NEIGHBOUR: 'it returns false'. Refute it at one input. -/
def fnRareGotWrong : ChangeSpec := { name := "fnRareGot", fn := fun _ => fun
  | [d1, d2] => { results := [.lit (.bool false)], args := [d1, d2] }
  | _ => none }
def FnRareGotWrongFalsely : Prop := fnRareGotRow.holds Try.pinned (OpenSpec.ofChange fnRareGotWrong)

/-- 'laws.FnRareBack': WHATEVER THE INPUT: true; the input reads as it did. -/
def fnRareBackSpec : ChangeSpec := { name := "fnRareBack", fn := fun _ => fun
  | [d] => { results := [.lit (.bool true)], args := [d] }
  | _ => none }
def fnRareBackRow : OpenClaim := { program := "ytgjnhfciphiciaa", sum := "f1e2453bf7d984b2b111959c4478a57879eeacc1d90420f9844810c0cdd8951c", func := "loop.example/feedswarm/laws.FnRareBack", spec := "fnRareBack", unfollowed := true, recurses := true, apart := false }
def FnRareBackSaid : Prop := fnRareBackRow.holds Try.pinned (OpenSpec.ofChange fnRareBackSpec)

/-- ITS FALSE NEIGHBOUR: 'it returns false'. Refute it at one input. -/
def fnRareBackWrong : ChangeSpec := { name := "fnRareBack", fn := fun _ => fun
  | [d] => { results := [.lit (.bool false)], args := [d] }
  | _ => none }
def FnRareBackWrongFalsely : Prop := fnRareBackRow.holds Try.pinned (OpenSpec.ofChange fnRareBackWrong)

/- THE SECOND FORM. 'bulk': how many values and letters a reading holds, each counted each time it is reached (what is shared counts as often as it is met; a slice's spare places count too). A statement '..UptoSaid' is the law's where the arguments, and the package variables that the reading takes, are together of bulk at most 1048576: NARROWER than '..Said'. Prove '..Said' where nothing that the law and all that it calls make is longer than what came in: it says more and counts as full. Else prove '..UptoSaid'. A law counts once. -/
mutual
def uptoBulk {H : Type} : DataW H → Nat
  | .lit (.string bytes) => bytes.length + 1
  | .lit _ => 1
  | .nil => 1
  | .ptr d => uptoBulk d + 1
  | .slice elems spare => uptoBulkAll elems + uptoBulkAll spare + 1
  | .agg parts => uptoBulkAll parts + 1
  | .iface _ d => uptoBulk d + 1
  | .map entries => uptoBulkEntries entries + 1
  | .held _ => 1
def uptoBulkAll {H : Type} : List (DataW H) → Nat
  | [] => 0
  | d :: r => uptoBulk d + uptoBulkAll r
def uptoBulkEntries {H : Type} : List (Lit × DataW H) → Nat
  | [] => 0
  | x :: r => uptoBulkEntry x + uptoBulkEntries r
def uptoBulkEntry {H : Type} : Lit × DataW H → Nat
  | (.string bytes, d) => bytes.length + uptoBulk d + 1
  | (_, d) => uptoBulk d + 1
 end
def uptoSmall : (H : Type) → List (DataW H) → Bool := fun _ ds => decide (uptoBulkAll ds ≤ 1048576)
def OpenSpec.upto (s : _root_.Go.ChangeSpec) : _root_.Go.OpenSpec := { _root_.Go.OpenSpec.ofChange s with cond := some uptoSmall }

/-- 'laws.FnRareCount', WHERE WHAT IT READS IS OF BULK AT MOST 1048576: true; the input reads as it did. -/
def fnRareCountUptoRow : OpenClaim := { program := "ytgjnhfciphiciaa", sum := "f1e2453bf7d984b2b111959c4478a57879eeacc1d90420f9844810c0cdd8951c", func := "loop.example/feedswarm/laws.FnRareCount", spec := "fnRareCount", unfollowed := true, recurses := true, apart := false, narrowed := true }
def FnRareCountUptoSaid : Prop := fnRareCountUptoRow.holds Try.pinned (OpenSpec.upto fnRareCountSpec)

/-- 'laws.FnRareOrder', WHERE WHAT IT READS IS OF BULK AT MOST 1048576: true; the input reads as it did. -/
def fnRareOrderUptoRow : OpenClaim := { program := "ytgjnhfciphiciaa", sum := "f1e2453bf7d984b2b111959c4478a57879eeacc1d90420f9844810c0cdd8951c", func := "loop.example/feedswarm/laws.FnRareOrder", spec := "fnRareOrder", unfollowed := true, recurses := true, apart := false, narrowed := true }
def FnRareOrderUptoSaid : Prop := fnRareOrderUptoRow.holds Try.pinned (OpenSpec.upto fnRareOrderSpec)

/-- 'laws.FnRareWanted', WHERE WHAT IT READS IS OF BULK AT MOST 1048576: true; the input reads as it did. -/
def fnRareWantedUptoRow : OpenClaim := { program := "ytgjnhfciphiciaa", sum := "f1e2453bf7d984b2b111959c4478a57879eeacc1d90420f9844810c0cdd8951c", func := "loop.example/feedswarm/laws.FnRareWanted", spec := "fnRareWanted", unfollowed := true, recurses := true, apart := false, narrowed := true }
def FnRareWantedUptoSaid : Prop := fnRareWantedUptoRow.holds Try.pinned (OpenSpec.upto fnRareWantedSpec)

/-- 'laws.FnRarePick', WHERE WHAT IT READS IS OF BULK AT MOST 1048576: true; the input reads as it did. -/
def fnRarePickUptoRow : OpenClaim := { program := "ytgjnhfciphiciaa", sum := "f1e2453bf7d984b2b111959c4478a57879eeacc1d90420f9844810c0cdd8951c", func := "loop.example/feedswarm/laws.FnRarePick", spec := "fnRarePick", unfollowed := true, recurses := true, apart := false, narrowed := true }
def FnRarePickUptoSaid : Prop := fnRarePickUptoRow.holds Try.pinned (OpenSpec.upto fnRarePickSpec)

/-- 'laws.FnRarePickLeast', WHERE WHAT IT READS IS OF BULK AT MOST 1048576: true; the input reads as it did. -/
def fnRarePickLeastUptoRow : OpenClaim := { program := "ytgjnhfciphiciaa", sum := "f1e2453bf7d984b2b111959c4478a57879eeacc1d90420f9844810c0cdd8951c", func := "loop.example/feedswarm/laws.FnRarePickLeast", spec := "fnRarePickLeast", unfollowed := true, recurses := true, apart := false, narrowed := true }
def FnRarePickLeastUptoSaid : Prop := fnRarePickLeastUptoRow.holds Try.pinned (OpenSpec.upto fnRarePickLeastSpec)

/-- 'laws.FnRareWhole', WHERE WHAT IT READS IS OF BULK AT MOST 1048576: true; the input reads as it did. -/
def fnRareWholeUptoRow : OpenClaim := { program := "ytgjnhfciphiciaa", sum := "f1e2453bf7d984b2b111959c4478a57879eeacc1d90420f9844810c0cdd8951c", func := "loop.example/feedswarm/laws.FnRareWhole", spec := "fnRareWhole", unfollowed := true, recurses := true, apart := false, narrowed := true }
def FnRareWholeUptoSaid : Prop := fnRareWholeUptoRow.holds Try.pinned (OpenSpec.upto fnRareWholeSpec)

/-- 'laws.FnRareMore', WHERE WHAT IT READS IS OF BULK AT MOST 1048576: true; the input reads as it did. -/
def fnRareMoreUptoRow : OpenClaim := { program := "ytgjnhfciphiciaa", sum := "f1e2453bf7d984b2b111959c4478a57879eeacc1d90420f9844810c0cdd8951c", func := "loop.example/feedswarm/laws.FnRareMore", spec := "fnRareMore", unfollowed := true, recurses := true, apart := false, narrowed := true }
def FnRareMoreUptoSaid : Prop := fnRareMoreUptoRow.holds Try.pinned (OpenSpec.upto fnRareMoreSpec)

/-- 'laws.FnRareMine', WHERE WHAT IT READS IS OF BULK AT MOST 1048576: true; the input reads as it did. -/
def fnRareMineUptoRow : OpenClaim := { program := "ytgjnhfciphiciaa", sum := "f1e2453bf7d984b2b111959c4478a57879eeacc1d90420f9844810c0cdd8951c", func := "loop.example/feedswarm/laws.FnRareMine", spec := "fnRareMine", unfollowed := true, recurses := true, apart := false, narrowed := true }
def FnRareMineUptoSaid : Prop := fnRareMineUptoRow.holds Try.pinned (OpenSpec.upto fnRareMineSpec)

/-- 'laws.FnRareGot', WHERE WHAT IT READS IS OF BULK AT MOST 1048576: true; the input reads as it did. -/
def fnRareGotUptoRow : OpenClaim := { program := "ytgjnhfciphiciaa", sum := "f1e2453bf7d984b2b111959c4478a57879eeacc1d90420f9844810c0cdd8951c", func := "loop.example/feedswarm/laws.FnRareGot", spec := "fnRareGot", unfollowed := true, recurses := true, apart := false, narrowed := true }
def FnRareGotUptoSaid : Prop := fnRareGotUptoRow.holds Try.pinned (OpenSpec.upto fnRareGotSpec)

/-- 'laws.FnRareBack', WHERE WHAT IT READS IS OF BULK AT MOST 1048576: true; the input reads as it did. -/
def fnRareBackUptoRow : OpenClaim := { program := "ytgjnhfciphiciaa", sum := "f1e2453bf7d984b2b111959c4478a57879eeacc1d90420f9844810c0cdd8951c", func := "loop.example/feedswarm/laws.FnRareBack", spec := "fnRareBack", unfollowed := true, recurses := true, apart := false, narrowed := true }
def FnRareBackUptoSaid : Prop := fnRareBackUptoRow.holds Try.pinned (OpenSpec.upto fnRareBackSpec)

end Rows
end Go.Proofs.Ytgjnhfciphiciaa
