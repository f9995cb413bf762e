/-
  No cell of these rows narrows 'for every input' (looked for: loops, veiled, ifaces, maps, wideKeys, modest, calm, conditions, laid).
  DERIVED. THE GIVEN ROWS OF THIS SEAT. 12 by the template 'for every input the law returns true; each argument reads behind the call as it read before'; 0 by the template 'total and deterministic' (their statements: YtmlichpokjfnnaaTotals.lean).
  GIVEN WITH THE SEED: the statements are not yours to turn. If you find one false, say at which input.
  Laid BY PROGRAM, IN A SANDBOX (cutbox-rows.mjs): the forced cells as the released guide's own fill.sh prints them over the translation 961de78e076b99fa… (all of the seat's roots in one cut). By AI agents, Wed Nov 11 2026. No macro, syntax, notation, axiom, sorry.
-/
import Derived.Test.YtmlichpokjfnnaaChecked
import GoSem.Claim
import GoSem.ClaimJoined
import GoSem.ClaimMapViews
import Derived.JoinedTies
import Derived.KernelRfl
namespace Go.Proofs.Ytmlichpokjfnnaa
/- THE CELL 'sum', in the pinned program and in every row, IS THE sha256 OF THE DUMP (.gsa) THAT YtmlichpokjfnnaaProg.lean LOADS. Nothing in Lean hashes anything: it is a label: what it is worth is what the hold of that sum in a sandbox is worth. -/
noncomputable def Try.pinned : Pinned := { name := "ytmlichpokjfnnaa", sum := "961de78e076b99fae6cdf5452b360e191bbbe70881d0b96f383c3ce7c5cb62d9", checked := Try.checked }
namespace Rows
def none {H : Type} : Left H := { results := [], args := [] }

/-- 'laws.FnServed': WHATEVER THE INPUT: true; the input reads as it did. -/
def fnServedSpec : ChangeSpec := { name := "fnServed", fn := fun _ => fun
  | [d] => { results := [.lit (.bool true)], args := [d] }
  | _ => none }
def fnServedRow : OpenClaim := { program := "ytmlichpokjfnnaa", sum := "961de78e076b99fae6cdf5452b360e191bbbe70881d0b96f383c3ce7c5cb62d9", func := "loop.example/feedswarm/laws.FnServed", spec := "fnServed", unfollowed := true, recurses := true, apart := false }
def FnServedSaid : Prop := fnServedRow.holds Try.pinned (OpenSpec.ofChange fnServedSpec)

/-- ITS FALSE NEIGHBOUR: 'it returns false'. Refute it at one input. -/
def fnServedWrong : ChangeSpec := { name := "fnServed", fn := fun _ => fun
  | [d] => { results := [.lit (.bool false)], args := [d] }
  | _ => none }
def FnServedWrongFalsely : Prop := fnServedRow.holds Try.pinned (OpenSpec.ofChange fnServedWrong)

/-- 'laws.FnServedBest': WHATEVER THE INPUT: true; the input reads as it did. -/
def fnServedBestSpec : ChangeSpec := { name := "fnServedBest", fn := fun _ => fun
  | [d] => { results := [.lit (.bool true)], args := [d] }
  | _ => none }
def fnServedBestRow : OpenClaim := { program := "ytmlichpokjfnnaa", sum := "961de78e076b99fae6cdf5452b360e191bbbe70881d0b96f383c3ce7c5cb62d9", func := "loop.example/feedswarm/laws.FnServedBest", spec := "fnServedBest", unfollowed := true, recurses := true, apart := false }
def FnServedBestSaid : Prop := fnServedBestRow.holds Try.pinned (OpenSpec.ofChange fnServedBestSpec)

/-- ITS FALSE NEIGHBOUR: 'it returns false'. Refute it at one input. -/
def fnServedBestWrong : ChangeSpec := { name := "fnServedBest", fn := fun _ => fun
  | [d] => { results := [.lit (.bool false)], args := [d] }
  | _ => none }
def FnServedBestWrongFalsely : Prop := fnServedBestRow.holds Try.pinned (OpenSpec.ofChange fnServedBestWrong)

/-- 'laws.FnServedTurn': WHATEVER THE INPUT: true; the input reads as it did. -/
def fnServedTurnSpec : ChangeSpec := { name := "fnServedTurn", fn := fun _ => fun
  | [d] => { results := [.lit (.bool true)], args := [d] }
  | _ => none }
def fnServedTurnRow : OpenClaim := { program := "ytmlichpokjfnnaa", sum := "961de78e076b99fae6cdf5452b360e191bbbe70881d0b96f383c3ce7c5cb62d9", func := "loop.example/feedswarm/laws.FnServedTurn", spec := "fnServedTurn", unfollowed := true, recurses := true, apart := false }
def FnServedTurnSaid : Prop := fnServedTurnRow.holds Try.pinned (OpenSpec.ofChange fnServedTurnSpec)

/-- ITS FALSE NEIGHBOUR: 'it returns false'. Refute it at one input. -/
def fnServedTurnWrong : ChangeSpec := { name := "fnServedTurn", fn := fun _ => fun
  | [d] => { results := [.lit (.bool false)], args := [d] }
  | _ => none }
def FnServedTurnWrongFalsely : Prop := fnServedTurnRow.holds Try.pinned (OpenSpec.ofChange fnServedTurnWrong)

/-- 'laws.FnServedAll': WHATEVER THE INPUT: true; the input reads as it did. -/
def fnServedAllSpec : ChangeSpec := { name := "fnServedAll", fn := fun _ => fun
  | [d] => { results := [.lit (.bool true)], args := [d] }
  | _ => none }
def fnServedAllRow : OpenClaim := { program := "ytmlichpokjfnnaa", sum := "961de78e076b99fae6cdf5452b360e191bbbe70881d0b96f383c3ce7c5cb62d9", func := "loop.example/feedswarm/laws.FnServedAll", spec := "fnServedAll", unfollowed := true, recurses := true, apart := false }
def FnServedAllSaid : Prop := fnServedAllRow.holds Try.pinned (OpenSpec.ofChange fnServedAllSpec)

/-- ITS FALSE NEIGHBOUR: 'it returns false'. Refute it at one input. -/
def fnServedAllWrong : ChangeSpec := { name := "fnServedAll", fn := fun _ => fun
  | [d] => { results := [.lit (.bool false)], args := [d] }
  | _ => none }
def FnServedAllWrongFalsely : Prop := fnServedAllRow.holds Try.pinned (OpenSpec.ofChange fnServedAllWrong)

/-- 'laws.FnServedFree': WHATEVER THE INPUT: true; the input reads as it did. -/
def fnServedFreeSpec : ChangeSpec := { name := "fnServedFree", fn := fun _ => fun
  | [d] => { results := [.lit (.bool true)], args := [d] }
  | _ => none }
def fnServedFreeRow : OpenClaim := { program := "ytmlichpokjfnnaa", sum := "961de78e076b99fae6cdf5452b360e191bbbe70881d0b96f383c3ce7c5cb62d9", func := "loop.example/feedswarm/laws.FnServedFree", spec := "fnServedFree", unfollowed := true, recurses := true, apart := false }
def FnServedFreeSaid : Prop := fnServedFreeRow.holds Try.pinned (OpenSpec.ofChange fnServedFreeSpec)

/-- ITS FALSE NEIGHBOUR: 'it returns false'. Refute it at one input. -/
def fnServedFreeWrong : ChangeSpec := { name := "fnServedFree", fn := fun _ => fun
  | [d] => { results := [.lit (.bool false)], args := [d] }
  | _ => none }
def FnServedFreeWrongFalsely : Prop := fnServedFreeRow.holds Try.pinned (OpenSpec.ofChange fnServedFreeWrong)

/-- 'laws.FnTurnAgain': WHATEVER THE INPUT: true; the input reads as it did. -/
def fnTurnAgainSpec : ChangeSpec := { name := "fnTurnAgain", fn := fun _ => fun
  | [d] => { results := [.lit (.bool true)], args := [d] }
  | _ => none }
def fnTurnAgainRow : OpenClaim := { program := "ytmlichpokjfnnaa", sum := "961de78e076b99fae6cdf5452b360e191bbbe70881d0b96f383c3ce7c5cb62d9", func := "loop.example/feedswarm/laws.FnTurnAgain", spec := "fnTurnAgain", unfollowed := true, recurses := true, apart := false }
def FnTurnAgainSaid : Prop := fnTurnAgainRow.holds Try.pinned (OpenSpec.ofChange fnTurnAgainSpec)

/-- ITS FALSE NEIGHBOUR: 'it returns false'. Refute it at one input. -/
def fnTurnAgainWrong : ChangeSpec := { name := "fnTurnAgain", fn := fun _ => fun
  | [d] => { results := [.lit (.bool false)], args := [d] }
  | _ => none }
def FnTurnAgainWrongFalsely : Prop := fnTurnAgainRow.holds Try.pinned (OpenSpec.ofChange fnTurnAgainWrong)

/-- 'laws.FnGive': WHATEVER THE INPUT: true; the input reads as it did. -/
def fnGiveSpec : ChangeSpec := { name := "fnGive", fn := fun _ => fun
  | [d] => { results := [.lit (.bool true)], args := [d] }
  | _ => none }
def fnGiveRow : OpenClaim := { program := "ytmlichpokjfnnaa", sum := "961de78e076b99fae6cdf5452b360e191bbbe70881d0b96f383c3ce7c5cb62d9", func := "loop.example/feedswarm/laws.FnGive", spec := "fnGive", unfollowed := true, recurses := true, apart := false }
def FnGiveSaid : Prop := fnGiveRow.holds Try.pinned (OpenSpec.ofChange fnGiveSpec)

/-- ITS FALSE NEIGHBOUR: 'it returns false'. Refute it at one input. -/
def fnGiveWrong : ChangeSpec := { name := "fnGive", fn := fun _ => fun
  | [d] => { results := [.lit (.bool false)], args := [d] }
  | _ => none }
def FnGiveWrongFalsely : Prop := fnGiveRow.holds Try.pinned (OpenSpec.ofChange fnGiveWrong)

/-- 'laws.FnGiveServed': WHATEVER THE INPUT: true; the input reads as it did. -/
def fnGiveServedSpec : ChangeSpec := { name := "fnGiveServed", fn := fun _ => fun
  | [d1, d2] => { results := [.lit (.bool true)], args := [d1, d2] }
  | _ => none }
def fnGiveServedRow : OpenClaim := { program := "ytmlichpokjfnnaa", sum := "961de78e076b99fae6cdf5452b360e191bbbe70881d0b96f383c3ce7c5cb62d9", func := "loop.example/feedswarm/laws.FnGiveServed", spec := "fnGiveServed", unfollowed := true, recurses := true, apart := false }
def FnGiveServedSaid : Prop := fnGiveServedRow.holds Try.pinned (OpenSpec.ofChange fnGiveServedSpec)

/-- ITS FALSE NEIGHBOUR: 'it returns false'. Refute it at one input. -/
def fnGiveServedWrong : ChangeSpec := { name := "fnGiveServed", fn := fun _ => fun
  | [d1, d2] => { results := [.lit (.bool false)], args := [d1, d2] }
  | _ => none }
def FnGiveServedWrongFalsely : Prop := fnGiveServedRow.holds Try.pinned (OpenSpec.ofChange fnGiveServedWrong)

/-- 'laws.FnFade': WHATEVER THE INPUT: true; the input reads as it did. -/
def fnFadeSpec : ChangeSpec := { name := "fnFade", fn := fun _ => fun
  | [d] => { results := [.lit (.bool true)], args := [d] }
  | _ => none }
def fnFadeRow : OpenClaim := { program := "ytmlichpokjfnnaa", sum := "961de78e076b99fae6cdf5452b360e191bbbe70881d0b96f383c3ce7c5cb62d9", func := "loop.example/feedswarm/laws.FnFade", spec := "fnFade", unfollowed := true, recurses := true, apart := false }
def FnFadeSaid : Prop := fnFadeRow.holds Try.pinned (OpenSpec.ofChange fnFadeSpec)

/-- ITS FALSE NEIGHBOUR: 'it returns false'. Refute it at one input. -/
def fnFadeWrong : ChangeSpec := { name := "fnFade", fn := fun _ => fun
  | [d] => { results := [.lit (.bool false)], args := [d] }
  | _ => none }
def FnFadeWrongFalsely : Prop := fnFadeRow.holds Try.pinned (OpenSpec.ofChange fnFadeWrong)

/-- 'laws.FnFadeOrder': WHATEVER THE INPUT: true; the input reads as it did. -/
def fnFadeOrderSpec : ChangeSpec := { name := "fnFadeOrder", fn := fun _ => fun
  | [d] => { results := [.lit (.bool true)], args := [d] }
  | _ => none }
def fnFadeOrderRow : OpenClaim := { program := "ytmlichpokjfnnaa", sum := "961de78e076b99fae6cdf5452b360e191bbbe70881d0b96f383c3ce7c5cb62d9", func := "loop.example/feedswarm/laws.FnFadeOrder", spec := "fnFadeOrder", unfollowed := true, recurses := true, apart := false }
def FnFadeOrderSaid : Prop := fnFadeOrderRow.holds Try.pinned (OpenSpec.ofChange fnFadeOrderSpec)

/-- ITS FALSE NEIGHBOUR: 'it returns false'. Refute it at one input. -/
def fnFadeOrderWrong : ChangeSpec := { name := "fnFadeOrder", fn := fun _ => fun
  | [d] => { results := [.lit (.bool false)], args := [d] }
  | _ => none }
def FnFadeOrderWrongFalsely : Prop := fnFadeOrderRow.holds Try.pinned (OpenSpec.ofChange fnFadeOrderWrong)

/-- 'laws.FnGiveMost': WHATEVER THE INPUT: true; the input reads as it did. -/
def fnGiveMostSpec : ChangeSpec := { name := "fnGiveMost", fn := fun _ => fun
  | [d] => { results := [.lit (.bool true)], args := [d] }
  | _ => none }
def fnGiveMostRow : OpenClaim := { program := "ytmlichpokjfnnaa", sum := "961de78e076b99fae6cdf5452b360e191bbbe70881d0b96f383c3ce7c5cb62d9", func := "loop.example/feedswarm/laws.FnGiveMost", spec := "fnGiveMost", unfollowed := true, recurses := true, apart := false }
def FnGiveMostSaid : Prop := fnGiveMostRow.holds Try.pinned (OpenSpec.ofChange fnGiveMostSpec)

/-- ITS FALSE NEIGHBOUR: 'it returns false'. Refute it at one input. -/
def fnGiveMostWrong : ChangeSpec := { name := "fnGiveMost", fn := fun _ => fun
  | [d] => { results := [.lit (.bool false)], args := [d] }
  | _ => none }
def FnGiveMostWrongFalsely : Prop := fnGiveMostRow.holds Try.pinned (OpenSpec.ofChange fnGiveMostWrong)

/-- 'laws.FnServedAgain': WHATEVER THE INPUT: true; the input reads as it did. -/
def fnServedAgainSpec : ChangeSpec := { name := "fnServedAgain", fn := fun _ => fun
  | [d] => { results := [.lit (.bool true)], args := [d] }
  | _ => none }
def fnServedAgainRow : OpenClaim := { program := "ytmlichpokjfnnaa", sum := "961de78e076b99fae6cdf5452b360e191bbbe70881d0b96f383c3ce7c5cb62d9", func := "loop.example/feedswarm/laws.FnServedAgain", spec := "fnServedAgain", unfollowed := true, recurses := true, apart := false }
def FnServedAgainSaid : Prop := fnServedAgainRow.holds Try.pinned (OpenSpec.ofChange fnServedAgainSpec)

/-- ITS FALSE NEIGHBOUR: 'it returns false'. Refute it at one input. -/
def fnServedAgainWrong : ChangeSpec := { name := "fnServedAgain", fn := fun _ => fun
  | [d] => { results := [.lit (.bool false)], args := [d] }
  | _ => none }
def FnServedAgainWrongFalsely : Prop := fnServedAgainRow.holds Try.pinned (OpenSpec.ofChange fnServedAgainWrong)

/- THE SECOND FORM. 'bulk': how many values and letters a reading holds, each counted each time it is reached (what is shared counts as often as it is met; a slice's spare places count too). A statement '..UptoSaid' is the law's where the arguments, and the package variables that the reading takes, are together of bulk at most 1048576: NARROWER than '..Said'. Prove '..Said' where nothing that the law and all that it calls make is longer than what came in: it says more and counts as full. Else prove '..UptoSaid'. A law counts once. -/
mutual
def uptoBulk {H : Type} : DataW H → Nat
  | .lit (.string bytes) => bytes.length + 1
  | .lit _ => 1
  | .nil => 1
  | .ptr d => uptoBulk d + 1
  | .slice elems spare => uptoBulkAll elems + uptoBulkAll spare + 1
  | .agg parts => uptoBulkAll parts + 1
  | .iface _ d => uptoBulk d + 1
  | .map entries => uptoBulkEntries entries + 1
  | .held _ => 1
def uptoBulkAll {H : Type} : List (DataW H) → Nat
  | [] => 0
  | d :: r => uptoBulk d + uptoBulkAll r
def uptoBulkEntries {H : Type} : List (Lit × DataW H) → Nat
  | [] => 0
  | x :: r => uptoBulkEntry x + uptoBulkEntries r
def uptoBulkEntry {H : Type} : Lit × DataW H → Nat
  | (.string bytes, d) => bytes.length + uptoBulk d + 1
  | (_, d) => uptoBulk d + 1
 end
def uptoSmall : (H : Type) → List (DataW H) → Bool := fun _ ds => decide (uptoBulkAll ds ≤ 1048576)
def OpenSpec.upto (s : _root_.Go.ChangeSpec) : _root_.Go.OpenSpec := { _root_.Go.OpenSpec.ofChange s with cond := some uptoSmall }

/-- 'laws.FnServed', WHERE WHAT IT READS IS OF BULK AT MOST 1048576: true; the input reads as it did. -/
def fnServedUptoRow : OpenClaim := { program := "ytmlichpokjfnnaa", sum := "961de78e076b99fae6cdf5452b360e191bbbe70881d0b96f383c3ce7c5cb62d9", func := "loop.example/feedswarm/laws.FnServed", spec := "fnServed", unfollowed := true, recurses := true, apart := false, narrowed := true }
def FnServedUptoSaid : Prop := fnServedUptoRow.holds Try.pinned (OpenSpec.upto fnServedSpec)

/-- 'laws.FnServedBest', WHERE WHAT IT READS IS OF BULK AT MOST 1048576: true; the input reads as it did. -/
def fnServedBestUptoRow : OpenClaim := { program := "ytmlichpokjfnnaa", sum := "961de78e076b99fae6cdf5452b360e191bbbe70881d0b96f383c3ce7c5cb62d9", func := "loop.example/feedswarm/laws.FnServedBest", spec := "fnServedBest", unfollowed := true, recurses := true, apart := false, narrowed := true }
def FnServedBestUptoSaid : Prop := fnServedBestUptoRow.holds Try.pinned (OpenSpec.upto fnServedBestSpec)

/-- 'laws.FnServedTurn', WHERE WHAT IT READS IS OF BULK AT MOST 1048576: true; the input reads as it did. -/
def fnServedTurnUptoRow : OpenClaim := { program := "ytmlichpokjfnnaa", sum := "961de78e076b99fae6cdf5452b360e191bbbe70881d0b96f383c3ce7c5cb62d9", func := "loop.example/feedswarm/laws.FnServedTurn", spec := "fnServedTurn", unfollowed := true, recurses := true, apart := false, narrowed := true }
def FnServedTurnUptoSaid : Prop := fnServedTurnUptoRow.holds Try.pinned (OpenSpec.upto fnServedTurnSpec)

/-- 'laws.FnServedAll', WHERE WHAT IT READS IS OF BULK AT MOST 1048576: true; the input reads as it did. -/
def fnServedAllUptoRow : OpenClaim := { program := "ytmlichpokjfnnaa", sum := "961de78e076b99fae6cdf5452b360e191bbbe70881d0b96f383c3ce7c5cb62d9", func := "loop.example/feedswarm/laws.FnServedAll", spec := "fnServedAll", unfollowed := true, recurses := true, apart := false, narrowed := true }
def FnServedAllUptoSaid : Prop := fnServedAllUptoRow.holds Try.pinned (OpenSpec.upto fnServedAllSpec)

/-- 'laws.FnServedFree', WHERE WHAT IT READS IS OF BULK AT MOST 1048576: true; the input reads as it did. -/
def fnServedFreeUptoRow : OpenClaim := { program := "ytmlichpokjfnnaa", sum := "961de78e076b99fae6cdf5452b360e191bbbe70881d0b96f383c3ce7c5cb62d9", func := "loop.example/feedswarm/laws.FnServedFree", spec := "fnServedFree", unfollowed := true, recurses := true, apart := false, narrowed := true }
def FnServedFreeUptoSaid : Prop := fnServedFreeUptoRow.holds Try.pinned (OpenSpec.upto fnServedFreeSpec)

/-- 'laws.FnTurnAgain', WHERE WHAT IT READS IS OF BULK AT MOST 1048576: true; the input reads as it did. -/
def fnTurnAgainUptoRow : OpenClaim := { program := "ytmlichpokjfnnaa", sum := "961de78e076b99fae6cdf5452b360e191bbbe70881d0b96f383c3ce7c5cb62d9", func := "loop.example/feedswarm/laws.FnTurnAgain", spec := "fnTurnAgain", unfollowed := true, recurses := true, apart := false, narrowed := true }
def FnTurnAgainUptoSaid : Prop := fnTurnAgainUptoRow.holds Try.pinned (OpenSpec.upto fnTurnAgainSpec)

/-- 'laws.FnGive', WHERE WHAT IT READS IS OF BULK AT MOST 1048576: true; the input reads as it did. -/
def fnGiveUptoRow : OpenClaim := { program := "ytmlichpokjfnnaa", sum := "961de78e076b99fae6cdf5452b360e191bbbe70881d0b96f383c3ce7c5cb62d9", func := "loop.example/feedswarm/laws.FnGive", spec := "fnGive", unfollowed := true, recurses := true, apart := false, narrowed := true }
def FnGiveUptoSaid : Prop := fnGiveUptoRow.holds Try.pinned (OpenSpec.upto fnGiveSpec)

/-- 'laws.FnGiveServed', WHERE WHAT IT READS IS OF BULK AT MOST 1048576: true; the input reads as it did. -/
def fnGiveServedUptoRow : OpenClaim := { program := "ytmlichpokjfnnaa", sum := "961de78e076b99fae6cdf5452b360e191bbbe70881d0b96f383c3ce7c5cb62d9", func := "loop.example/feedswarm/laws.FnGiveServed", spec := "fnGiveServed", unfollowed := true, recurses := true, apart := false, narrowed := true }
def FnGiveServedUptoSaid : Prop := fnGiveServedUptoRow.holds Try.pinned (OpenSpec.upto fnGiveServedSpec)

/-- 'laws.FnFade', WHERE WHAT IT READS IS OF BULK AT MOST 1048576: true; the input reads as it did. -/
def fnFadeUptoRow : OpenClaim := { program := "ytmlichpokjfnnaa", sum := "961de78e076b99fae6cdf5452b360e191bbbe70881d0b96f383c3ce7c5cb62d9", func := "loop.example/feedswarm/laws.FnFade", spec := "fnFade", unfollowed := true, recurses := true, apart := false, narrowed := true }
def FnFadeUptoSaid : Prop := fnFadeUptoRow.holds Try.pinned (OpenSpec.upto fnFadeSpec)

/-- 'laws.FnFadeOrder', WHERE WHAT IT READS IS OF BULK AT MOST 1048576: true; the input reads as it did. -/
def fnFadeOrderUptoRow : OpenClaim := { program := "ytmlichpokjfnnaa", sum := "961de78e076b99fae6cdf5452b360e191bbbe70881d0b96f383c3ce7c5cb62d9", func := "loop.example/feedswarm/laws.FnFadeOrder", spec := "fnFadeOrder", unfollowed := true, recurses := true, apart := false, narrowed := true }
def FnFadeOrderUptoSaid : Prop := fnFadeOrderUptoRow.holds Try.pinned (OpenSpec.upto fnFadeOrderSpec)

/-- 'laws.FnGiveMost', WHERE WHAT IT READS IS OF BULK AT MOST 1048576: true; the input reads as it did. -/
def fnGiveMostUptoRow : OpenClaim := { program := "ytmlichpokjfnnaa", sum := "961de78e076b99fae6cdf5452b360e191bbbe70881d0b96f383c3ce7c5cb62d9", func := "loop.example/feedswarm/laws.FnGiveMost", spec := "fnGiveMost", unfollowed := true, recurses := true, apart := false, narrowed := true }
def FnGiveMostUptoSaid : Prop := fnGiveMostUptoRow.holds Try.pinned (OpenSpec.upto fnGiveMostSpec)

/-- 'laws.FnServedAgain', WHERE WHAT IT READS IS OF BULK AT MOST 1048576: true; the input reads as it did. -/
def fnServedAgainUptoRow : OpenClaim := { program := "ytmlichpokjfnnaa", sum := "961de78e076b99fae6cdf5452b360e191bbbe70881d0b96f383c3ce7c5cb62d9", func := "loop.example/feedswarm/laws.FnServedAgain", spec := "fnServedAgain", unfollowed := true, recurses := true, apart := false, narrowed := true }
def FnServedAgainUptoSaid : Prop := fnServedAgainUptoRow.holds Try.pinned (OpenSpec.upto fnServedAgainSpec)

end Rows
end Go.Proofs.Ytmlichpokjfnnaa
