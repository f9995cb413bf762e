/-
  NARROWER THAN 'FOR EVERY INPUT', by the rows' own cells (each row's printed sentence says how): FnHeadDone: ifaces, laid · FnHeadTwice: ifaces, laid · FnHeadCodes: ifaces, laid · FnHeadGrown: ifaces, laid · FnHeadFirst: ifaces, laid · FnHeadUnsigned: ifaces, laid · FnExactFeedHead: ifaces, laid · FnForkHead: ifaces, laid.
  DERIVED. THE GIVEN ROWS OF THIS SEAT. 8 by the template 'for every input the law returns true; each argument reads behind the call as it read before'; 0 by the template 'total and deterministic' (their statements: YtlpdoieiiadhhaaDoorTotals.lean).
  GIVEN WITH THE SEED: the statements are not yours to turn. If you find one false, say at which input.
  Laid BY PROGRAM, IN A SANDBOX (cutbox-rows.mjs): the forced cells as the released guide's own fill.sh prints them over the translation c9095d98c7dd400a… (all of the seat's roots in one cut). By AI agents, Wed Nov 11 2026. No macro, syntax, notation, axiom, sorry.
-/
import Derived.Test.YtlpdoieiiadhhaaDoorChecked
import GoSem.Claim
import GoSem.ClaimJoined
import GoSem.ClaimMapViews
import Derived.JoinedTies
import Derived.KernelRfl
namespace Go.Proofs.YtlpdoieiiadhhaaDoor
/- THE CELL 'sum', in the pinned program and in every row, IS THE sha256 OF THE DUMP (.gsa) THAT YtlpdoieiiadhhaaDoorProg.lean LOADS. Nothing in Lean hashes anything: it is a label: what it is worth is what the hold of that sum in a sandbox is worth. -/
noncomputable def Tryd.pinned : Pinned := { name := "ytlpdoieiiadhhaadoor", sum := "c9095d98c7dd400afff6ebbe072c2af657d6c9d055784ab647cabc589cd3d631", checked := Tryd.checked }
namespace Rows
def none {H : Type} : Left H := { results := [], args := [] }

/- WHAT THE LISTED PACKAGE-LEVEL VARIABLES READ AS WHEN THE CALL BEGINS. Each datum BY PROGRAM (the guide's laid-datum.mjs) off the statement by which the dump's own 'gosem.cut.vars' lays the variable. In a bare row this is a premise. The card (YtlpdoieiiadhhaaDoorCards.lean) ties it to the program's text. -/
def laid_loop_example_feedswarm_impl_errHeadSame {H : Type} : DataW H := .iface "*errors.errorString" (.ptr (.agg [.lit (.string [116, 104, 101, 32, 104, 101, 97, 100, 32, 105, 115, 32, 116, 104, 101, 32, 108, 97, 115, 116, 32, 111, 110, 101])]))
def laid_loop_example_feedswarm_impl_errHeadOld {H : Type} : DataW H := .iface "*errors.errorString" (.ptr (.agg [.lit (.string [116, 104, 101, 32, 104, 101, 97, 100, 32, 105, 115, 32, 115, 104, 111, 114, 116, 101, 114, 32, 116, 104, 97, 110, 32, 116, 104, 101, 32, 108, 97, 115, 116, 32, 111, 110, 101])]))
def laid_loop_example_feedswarm_impl_errHeadFork {H : Type} : DataW H := .iface "*errors.errorString" (.ptr (.agg [.lit (.string [116, 104, 101, 32, 104, 101, 97, 100, 32, 105, 115, 32, 97, 110, 111, 116, 104, 101, 114, 32, 111, 110, 101, 32, 111, 102, 32, 116, 104, 101, 32, 115, 97, 109, 101, 32, 108, 101, 110, 103, 116, 104])]))
def laid_loop_example_feedswarm_impl_errHeadWrong {H : Type} : DataW H := .iface "*errors.errorString" (.ptr (.agg [.lit (.string [116, 104, 101, 32, 104, 101, 97, 100, 32, 105, 115, 32, 110, 111, 116, 32, 115, 105, 103, 110, 101, 100, 44, 32, 104, 97, 115, 32, 110, 111, 32, 98, 108, 111, 99, 107, 115, 32, 111, 114, 32, 105, 115, 32, 110, 111, 116, 32, 112, 114, 111, 118, 101, 100, 32, 116, 111, 32, 104, 97, 118, 101, 32, 103, 114, 111, 119, 110])]))

/-- 'laws.FnHeadDone': WHATEVER THE INPUT: true; the input reads as it did. -/
def fnHeadDoneSpec : ChangeSpec := { name := "fnHeadDone", vars := ["loop.example/feedswarm/impl.errHeadWrong", "loop.example/feedswarm/impl.errHeadSame", "loop.example/feedswarm/impl.errHeadOld", "loop.example/feedswarm/impl.errHeadFork"], fn := fun _ => fun
  | [d, g1, g2, g3, g4] => { results := [.lit (.bool true)], args := [d], vars := [g1, g2, g3, g4] }
  | _ => none }
def fnHeadDoneRow : OpenClaim := { program := "ytlpdoieiiadhhaadoor", sum := "c9095d98c7dd400afff6ebbe072c2af657d6c9d055784ab647cabc589cd3d631", func := "loop.example/feedswarm/laws.FnHeadDone", spec := "fnHeadDone", inPlace := ["internal/reflectlite.TypeOf"], unfollowed := true, recurses := true, named := ["loop.example/feedswarm/impl.errHeadWrong", "loop.example/feedswarm/impl.errHeadSame", "loop.example/feedswarm/impl.errHeadOld", "loop.example/feedswarm/impl.errHeadFork"], ifaces := true, apart := false, laid := [("loop.example/feedswarm/impl.errHeadSame", laid_loop_example_feedswarm_impl_errHeadSame), ("loop.example/feedswarm/impl.errHeadOld", laid_loop_example_feedswarm_impl_errHeadOld), ("loop.example/feedswarm/impl.errHeadFork", laid_loop_example_feedswarm_impl_errHeadFork), ("loop.example/feedswarm/impl.errHeadWrong", laid_loop_example_feedswarm_impl_errHeadWrong)] }
def FnHeadDoneSaid : Prop := fnHeadDoneRow.holds Tryd.pinned (OpenSpec.ofChange fnHeadDoneSpec)

/-- ITS FALSE NEIGHBOUR: 'it returns false'. Refute it at one input. -/
def fnHeadDoneWrong : ChangeSpec := { name := "fnHeadDone", vars := ["loop.example/feedswarm/impl.errHeadWrong", "loop.example/feedswarm/impl.errHeadSame", "loop.example/feedswarm/impl.errHeadOld", "loop.example/feedswarm/impl.errHeadFork"], fn := fun _ => fun
  | [d, g1, g2, g3, g4] => { results := [.lit (.bool false)], args := [d], vars := [g1, g2, g3, g4] }
  | _ => none }
def FnHeadDoneWrongFalsely : Prop := fnHeadDoneRow.holds Tryd.pinned (OpenSpec.ofChange fnHeadDoneWrong)

/-- 'laws.FnHeadTwice': WHATEVER THE INPUT: true; the input reads as it did. -/
def fnHeadTwiceSpec : ChangeSpec := { name := "fnHeadTwice", vars := ["loop.example/feedswarm/impl.errHeadWrong", "loop.example/feedswarm/impl.errHeadSame", "loop.example/feedswarm/impl.errHeadOld", "loop.example/feedswarm/impl.errHeadFork"], fn := fun _ => fun
  | [d, g1, g2, g3, g4] => { results := [.lit (.bool true)], args := [d], vars := [g1, g2, g3, g4] }
  | _ => none }
def fnHeadTwiceRow : OpenClaim := { program := "ytlpdoieiiadhhaadoor", sum := "c9095d98c7dd400afff6ebbe072c2af657d6c9d055784ab647cabc589cd3d631", func := "loop.example/feedswarm/laws.FnHeadTwice", spec := "fnHeadTwice", inPlace := ["internal/reflectlite.TypeOf"], unfollowed := true, recurses := true, named := ["loop.example/feedswarm/impl.errHeadWrong", "loop.example/feedswarm/impl.errHeadSame", "loop.example/feedswarm/impl.errHeadOld", "loop.example/feedswarm/impl.errHeadFork"], ifaces := true, apart := false, laid := [("loop.example/feedswarm/impl.errHeadSame", laid_loop_example_feedswarm_impl_errHeadSame), ("loop.example/feedswarm/impl.errHeadOld", laid_loop_example_feedswarm_impl_errHeadOld), ("loop.example/feedswarm/impl.errHeadFork", laid_loop_example_feedswarm_impl_errHeadFork), ("loop.example/feedswarm/impl.errHeadWrong", laid_loop_example_feedswarm_impl_errHeadWrong)] }
def FnHeadTwiceSaid : Prop := fnHeadTwiceRow.holds Tryd.pinned (OpenSpec.ofChange fnHeadTwiceSpec)

/-- ITS FALSE NEIGHBOUR: 'it returns false'. Refute it at one input. -/
def fnHeadTwiceWrong : ChangeSpec := { name := "fnHeadTwice", vars := ["loop.example/feedswarm/impl.errHeadWrong", "loop.example/feedswarm/impl.errHeadSame", "loop.example/feedswarm/impl.errHeadOld", "loop.example/feedswarm/impl.errHeadFork"], fn := fun _ => fun
  | [d, g1, g2, g3, g4] => { results := [.lit (.bool false)], args := [d], vars := [g1, g2, g3, g4] }
  | _ => none }
def FnHeadTwiceWrongFalsely : Prop := fnHeadTwiceRow.holds Tryd.pinned (OpenSpec.ofChange fnHeadTwiceWrong)

/-- 'laws.FnHeadCodes': WHATEVER THE INPUT: true; the input reads as it did. -/
def fnHeadCodesSpec : ChangeSpec := { name := "fnHeadCodes", vars := ["loop.example/feedswarm/impl.errHeadWrong", "loop.example/feedswarm/impl.errHeadSame", "loop.example/feedswarm/impl.errHeadOld", "loop.example/feedswarm/impl.errHeadFork"], fn := fun _ => fun
  | [d, g1, g2, g3, g4] => { results := [.lit (.bool true)], args := [d], vars := [g1, g2, g3, g4] }
  | _ => none }
def fnHeadCodesRow : OpenClaim := { program := "ytlpdoieiiadhhaadoor", sum := "c9095d98c7dd400afff6ebbe072c2af657d6c9d055784ab647cabc589cd3d631", func := "loop.example/feedswarm/laws.FnHeadCodes", spec := "fnHeadCodes", inPlace := ["internal/reflectlite.TypeOf"], unfollowed := true, recurses := true, named := ["loop.example/feedswarm/impl.errHeadWrong", "loop.example/feedswarm/impl.errHeadSame", "loop.example/feedswarm/impl.errHeadOld", "loop.example/feedswarm/impl.errHeadFork"], ifaces := true, apart := false, laid := [("loop.example/feedswarm/impl.errHeadSame", laid_loop_example_feedswarm_impl_errHeadSame), ("loop.example/feedswarm/impl.errHeadOld", laid_loop_example_feedswarm_impl_errHeadOld), ("loop.example/feedswarm/impl.errHeadFork", laid_loop_example_feedswarm_impl_errHeadFork), ("loop.example/feedswarm/impl.errHeadWrong", laid_loop_example_feedswarm_impl_errHeadWrong)] }
def FnHeadCodesSaid : Prop := fnHeadCodesRow.holds Tryd.pinned (OpenSpec.ofChange fnHeadCodesSpec)

/-- ITS FALSE NEIGHBOUR: 'it returns false'. Refute it at one input. -/
def fnHeadCodesWrong : ChangeSpec := { name := "fnHeadCodes", vars := ["loop.example/feedswarm/impl.errHeadWrong", "loop.example/feedswarm/impl.errHeadSame", "loop.example/feedswarm/impl.errHeadOld", "loop.example/feedswarm/impl.errHeadFork"], fn := fun _ => fun
  | [d, g1, g2, g3, g4] => { results := [.lit (.bool false)], args := [d], vars := [g1, g2, g3, g4] }
  | _ => none }
def FnHeadCodesWrongFalsely : Prop := fnHeadCodesRow.holds Tryd.pinned (OpenSpec.ofChange fnHeadCodesWrong)

/-- 'laws.FnHeadGrown': WHATEVER THE INPUT: true; the input reads as it did. -/
def fnHeadGrownSpec : ChangeSpec := { name := "fnHeadGrown", vars := ["loop.example/feedswarm/impl.errHeadWrong", "loop.example/feedswarm/impl.errHeadSame", "loop.example/feedswarm/impl.errHeadOld", "loop.example/feedswarm/impl.errHeadFork"], fn := fun _ => fun
  | [d, g1, g2, g3, g4] => { results := [.lit (.bool true)], args := [d], vars := [g1, g2, g3, g4] }
  | _ => none }
def fnHeadGrownRow : OpenClaim := { program := "ytlpdoieiiadhhaadoor", sum := "c9095d98c7dd400afff6ebbe072c2af657d6c9d055784ab647cabc589cd3d631", func := "loop.example/feedswarm/laws.FnHeadGrown", spec := "fnHeadGrown", inPlace := ["internal/reflectlite.TypeOf"], unfollowed := true, recurses := true, named := ["loop.example/feedswarm/impl.errHeadWrong", "loop.example/feedswarm/impl.errHeadSame", "loop.example/feedswarm/impl.errHeadOld", "loop.example/feedswarm/impl.errHeadFork"], ifaces := true, apart := false, laid := [("loop.example/feedswarm/impl.errHeadSame", laid_loop_example_feedswarm_impl_errHeadSame), ("loop.example/feedswarm/impl.errHeadOld", laid_loop_example_feedswarm_impl_errHeadOld), ("loop.example/feedswarm/impl.errHeadFork", laid_loop_example_feedswarm_impl_errHeadFork), ("loop.example/feedswarm/impl.errHeadWrong", laid_loop_example_feedswarm_impl_errHeadWrong)] }
def FnHeadGrownSaid : Prop := fnHeadGrownRow.holds Tryd.pinned (OpenSpec.ofChange fnHeadGrownSpec)

/-- ITS FALSE NEIGHBOUR: 'it returns false'. Refute it at one input. -/
def fnHeadGrownWrong : ChangeSpec := { name := "fnHeadGrown", vars := ["loop.example/feedswarm/impl.errHeadWrong", "loop.example/feedswarm/impl.errHeadSame", "loop.example/feedswarm/impl.errHeadOld", "loop.example/feedswarm/impl.errHeadFork"], fn := fun _ => fun
  | [d, g1, g2, g3, g4] => { results := [.lit (.bool false)], args := [d], vars := [g1, g2, g3, g4] }
  | _ => none }
def FnHeadGrownWrongFalsely : Prop := fnHeadGrownRow.holds Tryd.pinned (OpenSpec.ofChange fnHeadGrownWrong)

/-- 'laws.FnHeadFirst': WHATEVER THE INPUT: true; the input reads as it did. -/
def fnHeadFirstSpec : ChangeSpec := { name := "fnHeadFirst", vars := ["loop.example/feedswarm/impl.errHeadWrong", "loop.example/feedswarm/impl.errHeadSame", "loop.example/feedswarm/impl.errHeadOld", "loop.example/feedswarm/impl.errHeadFork"], fn := fun _ => fun
  | [d, g1, g2, g3, g4] => { results := [.lit (.bool true)], args := [d], vars := [g1, g2, g3, g4] }
  | _ => none }
def fnHeadFirstRow : OpenClaim := { program := "ytlpdoieiiadhhaadoor", sum := "c9095d98c7dd400afff6ebbe072c2af657d6c9d055784ab647cabc589cd3d631", func := "loop.example/feedswarm/laws.FnHeadFirst", spec := "fnHeadFirst", inPlace := ["internal/reflectlite.TypeOf"], unfollowed := true, recurses := true, named := ["loop.example/feedswarm/impl.errHeadWrong", "loop.example/feedswarm/impl.errHeadSame", "loop.example/feedswarm/impl.errHeadOld", "loop.example/feedswarm/impl.errHeadFork"], ifaces := true, apart := false, laid := [("loop.example/feedswarm/impl.errHeadSame", laid_loop_example_feedswarm_impl_errHeadSame), ("loop.example/feedswarm/impl.errHeadOld", laid_loop_example_feedswarm_impl_errHeadOld), ("loop.example/feedswarm/impl.errHeadFork", laid_loop_example_feedswarm_impl_errHeadFork), ("loop.example/feedswarm/impl.errHeadWrong", laid_loop_example_feedswarm_impl_errHeadWrong)] }
def FnHeadFirstSaid : Prop := fnHeadFirstRow.holds Tryd.pinned (OpenSpec.ofChange fnHeadFirstSpec)

/-- ITS FALSE NEIGHBOUR: 'it returns false'. Refute it at one input. -/
def fnHeadFirstWrong : ChangeSpec := { name := "fnHeadFirst", vars := ["loop.example/feedswarm/impl.errHeadWrong", "loop.example/feedswarm/impl.errHeadSame", "loop.example/feedswarm/impl.errHeadOld", "loop.example/feedswarm/impl.errHeadFork"], fn := fun _ => fun
  | [d, g1, g2, g3, g4] => { results := [.lit (.bool false)], args := [d], vars := [g1, g2, g3, g4] }
  | _ => none }
def FnHeadFirstWrongFalsely : Prop := fnHeadFirstRow.holds Tryd.pinned (OpenSpec.ofChange fnHeadFirstWrong)

/-- 'laws.FnHeadUnsigned': WHATEVER THE INPUT: true; the input reads as it did. -/
def fnHeadUnsignedSpec : ChangeSpec := { name := "fnHeadUnsigned", vars := ["loop.example/feedswarm/impl.errHeadWrong", "loop.example/feedswarm/impl.errHeadSame", "loop.example/feedswarm/impl.errHeadOld", "loop.example/feedswarm/impl.errHeadFork"], fn := fun _ => fun
  | [d, g1, g2, g3, g4] => { results := [.lit (.bool true)], args := [d], vars := [g1, g2, g3, g4] }
  | _ => none }
def fnHeadUnsignedRow : OpenClaim := { program := "ytlpdoieiiadhhaadoor", sum := "c9095d98c7dd400afff6ebbe072c2af657d6c9d055784ab647cabc589cd3d631", func := "loop.example/feedswarm/laws.FnHeadUnsigned", spec := "fnHeadUnsigned", inPlace := ["internal/reflectlite.TypeOf"], unfollowed := true, recurses := true, named := ["loop.example/feedswarm/impl.errHeadWrong", "loop.example/feedswarm/impl.errHeadSame", "loop.example/feedswarm/impl.errHeadOld", "loop.example/feedswarm/impl.errHeadFork"], ifaces := true, apart := false, laid := [("loop.example/feedswarm/impl.errHeadSame", laid_loop_example_feedswarm_impl_errHeadSame), ("loop.example/feedswarm/impl.errHeadOld", laid_loop_example_feedswarm_impl_errHeadOld), ("loop.example/feedswarm/impl.errHeadFork", laid_loop_example_feedswarm_impl_errHeadFork), ("loop.example/feedswarm/impl.errHeadWrong", laid_loop_example_feedswarm_impl_errHeadWrong)] }
def FnHeadUnsignedSaid : Prop := fnHeadUnsignedRow.holds Tryd.pinned (OpenSpec.ofChange fnHeadUnsignedSpec)

/-- ITS FALSE NEIGHBOUR: 'it returns false'. Refute it at one input. -/
def fnHeadUnsignedWrong : ChangeSpec := { name := "fnHeadUnsigned", vars := ["loop.example/feedswarm/impl.errHeadWrong", "loop.example/feedswarm/impl.errHeadSame", "loop.example/feedswarm/impl.errHeadOld", "loop.example/feedswarm/impl.errHeadFork"], fn := fun _ => fun
  | [d, g1, g2, g3, g4] => { results := [.lit (.bool false)], args := [d], vars := [g1, g2, g3, g4] }
  | _ => none }
def FnHeadUnsignedWrongFalsely : Prop := fnHeadUnsignedRow.holds Tryd.pinned (OpenSpec.ofChange fnHeadUnsignedWrong)

/-- 'laws.FnExactFeedHead': WHATEVER THE INPUT: true; the input reads as it did. -/
def fnExactFeedHeadSpec : ChangeSpec := { name := "fnExactFeedHead", vars := ["loop.example/feedswarm/impl.errHeadWrong", "loop.example/feedswarm/impl.errHeadSame", "loop.example/feedswarm/impl.errHeadOld", "loop.example/feedswarm/impl.errHeadFork"], fn := fun _ => fun
  | [d1, d2, d3, g1, g2, g3, g4] => { results := [.lit (.bool true)], args := [d1, d2, d3], vars := [g1, g2, g3, g4] }
  | _ => none }
def fnExactFeedHeadRow : OpenClaim := { program := "ytlpdoieiiadhhaadoor", sum := "c9095d98c7dd400afff6ebbe072c2af657d6c9d055784ab647cabc589cd3d631", func := "loop.example/feedswarm/laws.FnExactFeedHead", spec := "fnExactFeedHead", inPlace := ["internal/reflectlite.TypeOf"], unfollowed := true, recurses := true, named := ["loop.example/feedswarm/impl.errHeadWrong", "loop.example/feedswarm/impl.errHeadSame", "loop.example/feedswarm/impl.errHeadOld", "loop.example/feedswarm/impl.errHeadFork"], ifaces := true, apart := false, laid := [("loop.example/feedswarm/impl.errHeadSame", laid_loop_example_feedswarm_impl_errHeadSame), ("loop.example/feedswarm/impl.errHeadOld", laid_loop_example_feedswarm_impl_errHeadOld), ("loop.example/feedswarm/impl.errHeadFork", laid_loop_example_feedswarm_impl_errHeadFork), ("loop.example/feedswarm/impl.errHeadWrong", laid_loop_example_feedswarm_impl_errHeadWrong)] }
def FnExactFeedHeadSaid : Prop := fnExactFeedHeadRow.holds Tryd.pinned (OpenSpec.ofChange fnExactFeedHeadSpec)

/-- ITS FALSE NEIGHBOUR: 'it returns false'. Refute it at one input. -/
def fnExactFeedHeadWrong : ChangeSpec := { name := "fnExactFeedHead", vars := ["loop.example/feedswarm/impl.errHeadWrong", "loop.example/feedswarm/impl.errHeadSame", "loop.example/feedswarm/impl.errHeadOld", "loop.example/feedswarm/impl.errHeadFork"], fn := fun _ => fun
  | [d1, d2, d3, g1, g2, g3, g4] => { results := [.lit (.bool false)], args := [d1, d2, d3], vars := [g1, g2, g3, g4] }
  | _ => none }
def FnExactFeedHeadWrongFalsely : Prop := fnExactFeedHeadRow.holds Tryd.pinned (OpenSpec.ofChange fnExactFeedHeadWrong)

/-- 'laws.FnForkHead': WHATEVER THE INPUT: true; the input reads as it did. -/
def fnForkHeadSpec : ChangeSpec := { name := "fnForkHead", vars := ["loop.example/feedswarm/impl.errHeadWrong", "loop.example/feedswarm/impl.errHeadSame", "loop.example/feedswarm/impl.errHeadOld", "loop.example/feedswarm/impl.errHeadFork"], fn := fun _ => fun
  | [d, g1, g2, g3, g4] => { results := [.lit (.bool true)], args := [d], vars := [g1, g2, g3, g4] }
  | _ => none }
def fnForkHeadRow : OpenClaim := { program := "ytlpdoieiiadhhaadoor", sum := "c9095d98c7dd400afff6ebbe072c2af657d6c9d055784ab647cabc589cd3d631", func := "loop.example/feedswarm/laws.FnForkHead", spec := "fnForkHead", inPlace := ["internal/reflectlite.TypeOf"], unfollowed := true, recurses := true, named := ["loop.example/feedswarm/impl.errHeadWrong", "loop.example/feedswarm/impl.errHeadSame", "loop.example/feedswarm/impl.errHeadOld", "loop.example/feedswarm/impl.errHeadFork"], ifaces := true, apart := false, laid := [("loop.example/feedswarm/impl.errHeadSame", laid_loop_example_feedswarm_impl_errHeadSame), ("loop.example/feedswarm/impl.errHeadOld", laid_loop_example_feedswarm_impl_errHeadOld), ("loop.example/feedswarm/impl.errHeadFork", laid_loop_example_feedswarm_impl_errHeadFork), ("loop.example/feedswarm/impl.errHeadWrong", laid_loop_example_feedswarm_impl_errHeadWrong)] }
def FnForkHeadSaid : Prop := fnForkHeadRow.holds Tryd.pinned (OpenSpec.ofChange fnForkHeadSpec)

/-- ITS FALSE NEIGHBOUR: 'it returns false'. Refute it at one input. -/
def fnForkHeadWrong : ChangeSpec := { name := "fnForkHead", vars := ["loop.example/feedswarm/impl.errHeadWrong", "loop.example/feedswarm/impl.errHeadSame", "loop.example/feedswarm/impl.errHeadOld", "loop.example/feedswarm/impl.errHeadFork"], fn := fun _ => fun
  | [d, g1, g2, g3, g4] => { results := [.lit (.bool false)], args := [d], vars := [g1, g2, g3, g4] }
  | _ => none }
def FnForkHeadWrongFalsely : Prop := fnForkHeadRow.holds Tryd.pinned (OpenSpec.ofChange fnForkHeadWrong)

/- THE SECOND FORM. 'bulk': how many values and letters a reading holds, each counted each time it is reached (what is shared counts as often as it is met; a slice's spare places count too). A statement '..UptoSaid' is the law's where the arguments, and the package variables that the reading takes, are together of bulk at most 1048576: NARROWER than '..Said'. Prove '..Said' where nothing that the law and all that it calls make is longer than what came in: it says more and counts as full. Else prove '..UptoSaid'. A law counts once. -/
mutual
def uptoBulk {H : Type} : DataW H → Nat
  | .lit (.string bytes) => bytes.length + 1
  | .lit _ => 1
  | .nil => 1
  | .ptr d => uptoBulk d + 1
  | .slice elems spare => uptoBulkAll elems + uptoBulkAll spare + 1
  | .agg parts => uptoBulkAll parts + 1
  | .iface _ d => uptoBulk d + 1
  | .map entries => uptoBulkEntries entries + 1
  | .held _ => 1
def uptoBulkAll {H : Type} : List (DataW H) → Nat
  | [] => 0
  | d :: r => uptoBulk d + uptoBulkAll r
def uptoBulkEntries {H : Type} : List (Lit × DataW H) → Nat
  | [] => 0
  | x :: r => uptoBulkEntry x + uptoBulkEntries r
def uptoBulkEntry {H : Type} : Lit × DataW H → Nat
  | (.string bytes, d) => bytes.length + uptoBulk d + 1
  | (_, d) => uptoBulk d + 1
 end
def uptoSmall : (H : Type) → List (DataW H) → Bool := fun _ ds => decide (uptoBulkAll ds ≤ 1048576)
def OpenSpec.upto (s : _root_.Go.ChangeSpec) : _root_.Go.OpenSpec := { _root_.Go.OpenSpec.ofChange s with cond := some uptoSmall }

/-- 'laws.FnHeadDone', WHERE WHAT IT READS IS OF BULK AT MOST 1048576: true; the input reads as it did. -/
def fnHeadDoneUptoRow : OpenClaim := { program := "ytlpdoieiiadhhaadoor", sum := "c9095d98c7dd400afff6ebbe072c2af657d6c9d055784ab647cabc589cd3d631", func := "loop.example/feedswarm/laws.FnHeadDone", spec := "fnHeadDone", inPlace := ["internal/reflectlite.TypeOf"], unfollowed := true, recurses := true, named := ["loop.example/feedswarm/impl.errHeadWrong", "loop.example/feedswarm/impl.errHeadSame", "loop.example/feedswarm/impl.errHeadOld", "loop.example/feedswarm/impl.errHeadFork"], ifaces := true, apart := false, laid := [("loop.example/feedswarm/impl.errHeadSame", laid_loop_example_feedswarm_impl_errHeadSame), ("loop.example/feedswarm/impl.errHeadOld", laid_loop_example_feedswarm_impl_errHeadOld), ("loop.example/feedswarm/impl.errHeadFork", laid_loop_example_feedswarm_impl_errHeadFork), ("loop.example/feedswarm/impl.errHeadWrong", laid_loop_example_feedswarm_impl_errHeadWrong)], narrowed := true }
def FnHeadDoneUptoSaid : Prop := fnHeadDoneUptoRow.holds Tryd.pinned (OpenSpec.upto fnHeadDoneSpec)

/-- 'laws.FnHeadTwice', WHERE WHAT IT READS IS OF BULK AT MOST 1048576: true; the input reads as it did. -/
def fnHeadTwiceUptoRow : OpenClaim := { program := "ytlpdoieiiadhhaadoor", sum := "c9095d98c7dd400afff6ebbe072c2af657d6c9d055784ab647cabc589cd3d631", func := "loop.example/feedswarm/laws.FnHeadTwice", spec := "fnHeadTwice", inPlace := ["internal/reflectlite.TypeOf"], unfollowed := true, recurses := true, named := ["loop.example/feedswarm/impl.errHeadWrong", "loop.example/feedswarm/impl.errHeadSame", "loop.example/feedswarm/impl.errHeadOld", "loop.example/feedswarm/impl.errHeadFork"], ifaces := true, apart := false, laid := [("loop.example/feedswarm/impl.errHeadSame", laid_loop_example_feedswarm_impl_errHeadSame), ("loop.example/feedswarm/impl.errHeadOld", laid_loop_example_feedswarm_impl_errHeadOld), ("loop.example/feedswarm/impl.errHeadFork", laid_loop_example_feedswarm_impl_errHeadFork), ("loop.example/feedswarm/impl.errHeadWrong", laid_loop_example_feedswarm_impl_errHeadWrong)], narrowed := true }
def FnHeadTwiceUptoSaid : Prop := fnHeadTwiceUptoRow.holds Tryd.pinned (OpenSpec.upto fnHeadTwiceSpec)

/-- 'laws.FnHeadCodes', WHERE WHAT IT READS IS OF BULK AT MOST 1048576: true; the input reads as it did. -/
def fnHeadCodesUptoRow : OpenClaim := { program := "ytlpdoieiiadhhaadoor", sum := "c9095d98c7dd400afff6ebbe072c2af657d6c9d055784ab647cabc589cd3d631", func := "loop.example/feedswarm/laws.FnHeadCodes", spec := "fnHeadCodes", inPlace := ["internal/reflectlite.TypeOf"], unfollowed := true, recurses := true, named := ["loop.example/feedswarm/impl.errHeadWrong", "loop.example/feedswarm/impl.errHeadSame", "loop.example/feedswarm/impl.errHeadOld", "loop.example/feedswarm/impl.errHeadFork"], ifaces := true, apart := false, laid := [("loop.example/feedswarm/impl.errHeadSame", laid_loop_example_feedswarm_impl_errHeadSame), ("loop.example/feedswarm/impl.errHeadOld", laid_loop_example_feedswarm_impl_errHeadOld), ("loop.example/feedswarm/impl.errHeadFork", laid_loop_example_feedswarm_impl_errHeadFork), ("loop.example/feedswarm/impl.errHeadWrong", laid_loop_example_feedswarm_impl_errHeadWrong)], narrowed := true }
def FnHeadCodesUptoSaid : Prop := fnHeadCodesUptoRow.holds Tryd.pinned (OpenSpec.upto fnHeadCodesSpec)

/-- 'laws.FnHeadGrown', WHERE WHAT IT READS IS OF BULK AT MOST 1048576: true; the input reads as it did. -/
def fnHeadGrownUptoRow : OpenClaim := { program := "ytlpdoieiiadhhaadoor", sum := "c9095d98c7dd400afff6ebbe072c2af657d6c9d055784ab647cabc589cd3d631", func := "loop.example/feedswarm/laws.FnHeadGrown", spec := "fnHeadGrown", inPlace := ["internal/reflectlite.TypeOf"], unfollowed := true, recurses := true, named := ["loop.example/feedswarm/impl.errHeadWrong", "loop.example/feedswarm/impl.errHeadSame", "loop.example/feedswarm/impl.errHeadOld", "loop.example/feedswarm/impl.errHeadFork"], ifaces := true, apart := false, laid := [("loop.example/feedswarm/impl.errHeadSame", laid_loop_example_feedswarm_impl_errHeadSame), ("loop.example/feedswarm/impl.errHeadOld", laid_loop_example_feedswarm_impl_errHeadOld), ("loop.example/feedswarm/impl.errHeadFork", laid_loop_example_feedswarm_impl_errHeadFork), ("loop.example/feedswarm/impl.errHeadWrong", laid_loop_example_feedswarm_impl_errHeadWrong)], narrowed := true }
def FnHeadGrownUptoSaid : Prop := fnHeadGrownUptoRow.holds Tryd.pinned (OpenSpec.upto fnHeadGrownSpec)

/-- 'laws.FnHeadFirst', WHERE WHAT IT READS IS OF BULK AT MOST 1048576: true; the input reads as it did. -/
def fnHeadFirstUptoRow : OpenClaim := { program := "ytlpdoieiiadhhaadoor", sum := "c9095d98c7dd400afff6ebbe072c2af657d6c9d055784ab647cabc589cd3d631", func := "loop.example/feedswarm/laws.FnHeadFirst", spec := "fnHeadFirst", inPlace := ["internal/reflectlite.TypeOf"], unfollowed := true, recurses := true, named := ["loop.example/feedswarm/impl.errHeadWrong", "loop.example/feedswarm/impl.errHeadSame", "loop.example/feedswarm/impl.errHeadOld", "loop.example/feedswarm/impl.errHeadFork"], ifaces := true, apart := false, laid := [("loop.example/feedswarm/impl.errHeadSame", laid_loop_example_feedswarm_impl_errHeadSame), ("loop.example/feedswarm/impl.errHeadOld", laid_loop_example_feedswarm_impl_errHeadOld), ("loop.example/feedswarm/impl.errHeadFork", laid_loop_example_feedswarm_impl_errHeadFork), ("loop.example/feedswarm/impl.errHeadWrong", laid_loop_example_feedswarm_impl_errHeadWrong)], narrowed := true }
def FnHeadFirstUptoSaid : Prop := fnHeadFirstUptoRow.holds Tryd.pinned (OpenSpec.upto fnHeadFirstSpec)

/-- 'laws.FnHeadUnsigned', WHERE WHAT IT READS IS OF BULK AT MOST 1048576: true; the input reads as it did. -/
def fnHeadUnsignedUptoRow : OpenClaim := { program := "ytlpdoieiiadhhaadoor", sum := "c9095d98c7dd400afff6ebbe072c2af657d6c9d055784ab647cabc589cd3d631", func := "loop.example/feedswarm/laws.FnHeadUnsigned", spec := "fnHeadUnsigned", inPlace := ["internal/reflectlite.TypeOf"], unfollowed := true, recurses := true, named := ["loop.example/feedswarm/impl.errHeadWrong", "loop.example/feedswarm/impl.errHeadSame", "loop.example/feedswarm/impl.errHeadOld", "loop.example/feedswarm/impl.errHeadFork"], ifaces := true, apart := false, laid := [("loop.example/feedswarm/impl.errHeadSame", laid_loop_example_feedswarm_impl_errHeadSame), ("loop.example/feedswarm/impl.errHeadOld", laid_loop_example_feedswarm_impl_errHeadOld), ("loop.example/feedswarm/impl.errHeadFork", laid_loop_example_feedswarm_impl_errHeadFork), ("loop.example/feedswarm/impl.errHeadWrong", laid_loop_example_feedswarm_impl_errHeadWrong)], narrowed := true }
def FnHeadUnsignedUptoSaid : Prop := fnHeadUnsignedUptoRow.holds Tryd.pinned (OpenSpec.upto fnHeadUnsignedSpec)

/-- 'laws.FnExactFeedHead', WHERE WHAT IT READS IS OF BULK AT MOST 1048576: true; the input reads as it did. -/
def fnExactFeedHeadUptoRow : OpenClaim := { program := "ytlpdoieiiadhhaadoor", sum := "c9095d98c7dd400afff6ebbe072c2af657d6c9d055784ab647cabc589cd3d631", func := "loop.example/feedswarm/laws.FnExactFeedHead", spec := "fnExactFeedHead", inPlace := ["internal/reflectlite.TypeOf"], unfollowed := true, recurses := true, named := ["loop.example/feedswarm/impl.errHeadWrong", "loop.example/feedswarm/impl.errHeadSame", "loop.example/feedswarm/impl.errHeadOld", "loop.example/feedswarm/impl.errHeadFork"], ifaces := true, apart := false, laid := [("loop.example/feedswarm/impl.errHeadSame", laid_loop_example_feedswarm_impl_errHeadSame), ("loop.example/feedswarm/impl.errHeadOld", laid_loop_example_feedswarm_impl_errHeadOld), ("loop.example/feedswarm/impl.errHeadFork", laid_loop_example_feedswarm_impl_errHeadFork), ("loop.example/feedswarm/impl.errHeadWrong", laid_loop_example_feedswarm_impl_errHeadWrong)], narrowed := true }
def FnExactFeedHeadUptoSaid : Prop := fnExactFeedHeadUptoRow.holds Tryd.pinned (OpenSpec.upto fnExactFeedHeadSpec)

/-- 'laws.FnForkHead', WHERE WHAT IT READS IS OF BULK AT MOST 1048576: true; the input reads as it did. -/
def fnForkHeadUptoRow : OpenClaim := { program := "ytlpdoieiiadhhaadoor", sum := "c9095d98c7dd400afff6ebbe072c2af657d6c9d055784ab647cabc589cd3d631", func := "loop.example/feedswarm/laws.FnForkHead", spec := "fnForkHead", inPlace := ["internal/reflectlite.TypeOf"], unfollowed := true, recurses := true, named := ["loop.example/feedswarm/impl.errHeadWrong", "loop.example/feedswarm/impl.errHeadSame", "loop.example/feedswarm/impl.errHeadOld", "loop.example/feedswarm/impl.errHeadFork"], ifaces := true, apart := false, laid := [("loop.example/feedswarm/impl.errHeadSame", laid_loop_example_feedswarm_impl_errHeadSame), ("loop.example/feedswarm/impl.errHeadOld", laid_loop_example_feedswarm_impl_errHeadOld), ("loop.example/feedswarm/impl.errHeadFork", laid_loop_example_feedswarm_impl_errHeadFork), ("loop.example/feedswarm/impl.errHeadWrong", laid_loop_example_feedswarm_impl_errHeadWrong)], narrowed := true }
def FnForkHeadUptoSaid : Prop := fnForkHeadUptoRow.holds Tryd.pinned (OpenSpec.upto fnForkHeadSpec)

end Rows
end Go.Proofs.YtlpdoieiiadhhaaDoor
