/-
  DERIVED. GIVEN WITH THE SEED: THE CARDS: each row of YtlpdoieiiadhhaaDoorRows.lean that lists a variable, with what it lists TIED to the program's text (the seventh form; the later family's looks); each row that meets fmt, with fmt's text TOLD by the authors' own Lean function (tested against real Go, not proved from fmt's source: count such statements apart). THE CARD IS WHAT COUNTS. Prove the row's statement (the work); the ties are given (YtlpdoieiiadhhaaDoorTie.lean); close each card by the builder's one call (the guide's Derived/Test/ToyasCard.lean, 'card_holds'). Laid BY PROGRAM, IN A SANDBOX (cutbox-door.mjs). By AI agents, Wed Nov 11 2026. No macro, syntax, notation, axiom, sorry.
-/
import Derived.Test.YtlpdoieiiadhhaaDoorRows
import GoSem.ClaimSeven
namespace Go.Proofs.YtlpdoieiiadhhaaDoor
namespace Rows

/-- THE TIED CARD OF 'laws.FnHeadDone'. -/
def fnHeadDoneCard : Claim7 := { stood := { row := fnHeadDoneRow, standIns := [], harness := (true, "2dd848775066fa2dabab30e52e78e7a18c4ed00d29c367296a9889832e66133f"), looks := true }, kinds := [], alts := [], laidByText := true, laidKinds := [.sentinel, .sentinel, .sentinel, .sentinel], laidTests := true, laidLooks := .later }
def FnHeadDoneCardSaid : Prop := Claim7.holds Tryd.pinned (.plain (OpenSpec.ofChange fnHeadDoneSpec)) fnHeadDoneCard

/-- THE TIED CARD OF 'laws.FnHeadTwice'. -/
def fnHeadTwiceCard : Claim7 := { stood := { row := fnHeadTwiceRow, standIns := [], harness := (true, "2dd848775066fa2dabab30e52e78e7a18c4ed00d29c367296a9889832e66133f"), looks := true }, kinds := [], alts := [], laidByText := true, laidKinds := [.sentinel, .sentinel, .sentinel, .sentinel], laidTests := true, laidLooks := .later }
def FnHeadTwiceCardSaid : Prop := Claim7.holds Tryd.pinned (.plain (OpenSpec.ofChange fnHeadTwiceSpec)) fnHeadTwiceCard

/-- THE TIED CARD OF 'laws.FnHeadCodes'. -/
def fnHeadCodesCard : Claim7 := { stood := { row := fnHeadCodesRow, standIns := [], harness := (true, "2dd848775066fa2dabab30e52e78e7a18c4ed00d29c367296a9889832e66133f"), looks := true }, kinds := [], alts := [], laidByText := true, laidKinds := [.sentinel, .sentinel, .sentinel, .sentinel], laidTests := true, laidLooks := .later }
def FnHeadCodesCardSaid : Prop := Claim7.holds Tryd.pinned (.plain (OpenSpec.ofChange fnHeadCodesSpec)) fnHeadCodesCard

/-- THE TIED CARD OF 'laws.FnHeadGrown'. -/
def fnHeadGrownCard : Claim7 := { stood := { row := fnHeadGrownRow, standIns := [], harness := (true, "2dd848775066fa2dabab30e52e78e7a18c4ed00d29c367296a9889832e66133f"), looks := true }, kinds := [], alts := [], laidByText := true, laidKinds := [.sentinel, .sentinel, .sentinel, .sentinel], laidTests := true, laidLooks := .later }
def FnHeadGrownCardSaid : Prop := Claim7.holds Tryd.pinned (.plain (OpenSpec.ofChange fnHeadGrownSpec)) fnHeadGrownCard

/-- THE TIED CARD OF 'laws.FnHeadFirst'. -/
def fnHeadFirstCard : Claim7 := { stood := { row := fnHeadFirstRow, standIns := [], harness := (true, "2dd848775066fa2dabab30e52e78e7a18c4ed00d29c367296a9889832e66133f"), looks := true }, kinds := [], alts := [], laidByText := true, laidKinds := [.sentinel, .sentinel, .sentinel, .sentinel], laidTests := true, laidLooks := .later }
def FnHeadFirstCardSaid : Prop := Claim7.holds Tryd.pinned (.plain (OpenSpec.ofChange fnHeadFirstSpec)) fnHeadFirstCard

/-- THE TIED CARD OF 'laws.FnHeadUnsigned'. -/
def fnHeadUnsignedCard : Claim7 := { stood := { row := fnHeadUnsignedRow, standIns := [], harness := (true, "2dd848775066fa2dabab30e52e78e7a18c4ed00d29c367296a9889832e66133f"), looks := true }, kinds := [], alts := [], laidByText := true, laidKinds := [.sentinel, .sentinel, .sentinel, .sentinel], laidTests := true, laidLooks := .later }
def FnHeadUnsignedCardSaid : Prop := Claim7.holds Tryd.pinned (.plain (OpenSpec.ofChange fnHeadUnsignedSpec)) fnHeadUnsignedCard

/-- THE TIED CARD OF 'laws.FnExactFeedHead'. -/
def fnExactFeedHeadCard : Claim7 := { stood := { row := fnExactFeedHeadRow, standIns := [], harness := (true, "2dd848775066fa2dabab30e52e78e7a18c4ed00d29c367296a9889832e66133f"), looks := true }, kinds := [], alts := [], laidByText := true, laidKinds := [.sentinel, .sentinel, .sentinel, .sentinel], laidTests := true, laidLooks := .later }
def FnExactFeedHeadCardSaid : Prop := Claim7.holds Tryd.pinned (.plain (OpenSpec.ofChange fnExactFeedHeadSpec)) fnExactFeedHeadCard

/-- THE TIED CARD OF 'laws.FnForkHead'. -/
def fnForkHeadCard : Claim7 := { stood := { row := fnForkHeadRow, standIns := [], harness := (true, "2dd848775066fa2dabab30e52e78e7a18c4ed00d29c367296a9889832e66133f"), looks := true }, kinds := [], alts := [], laidByText := true, laidKinds := [.sentinel, .sentinel, .sentinel, .sentinel], laidTests := true, laidLooks := .later }
def FnForkHeadCardSaid : Prop := Claim7.holds Tryd.pinned (.plain (OpenSpec.ofChange fnForkHeadSpec)) fnForkHeadCard

/-- THE SECOND FORM's CARD OF 'laws.FnHeadDone'. -/
def fnHeadDoneUptoCard : Claim7 := { stood := { row := fnHeadDoneUptoRow, standIns := [], harness := (true, "2dd848775066fa2dabab30e52e78e7a18c4ed00d29c367296a9889832e66133f"), looks := true }, kinds := [], alts := [], laidByText := true, laidKinds := [.sentinel, .sentinel, .sentinel, .sentinel], laidTests := true, laidLooks := .later }
def FnHeadDoneUptoCardSaid : Prop := Claim7.holds Tryd.pinned (.plain (OpenSpec.upto fnHeadDoneSpec)) fnHeadDoneUptoCard

/-- THE SECOND FORM's CARD OF 'laws.FnHeadTwice'. -/
def fnHeadTwiceUptoCard : Claim7 := { stood := { row := fnHeadTwiceUptoRow, standIns := [], harness := (true, "2dd848775066fa2dabab30e52e78e7a18c4ed00d29c367296a9889832e66133f"), looks := true }, kinds := [], alts := [], laidByText := true, laidKinds := [.sentinel, .sentinel, .sentinel, .sentinel], laidTests := true, laidLooks := .later }
def FnHeadTwiceUptoCardSaid : Prop := Claim7.holds Tryd.pinned (.plain (OpenSpec.upto fnHeadTwiceSpec)) fnHeadTwiceUptoCard

/-- THE SECOND FORM's CARD OF 'laws.FnHeadCodes'. -/
def fnHeadCodesUptoCard : Claim7 := { stood := { row := fnHeadCodesUptoRow, standIns := [], harness := (true, "2dd848775066fa2dabab30e52e78e7a18c4ed00d29c367296a9889832e66133f"), looks := true }, kinds := [], alts := [], laidByText := true, laidKinds := [.sentinel, .sentinel, .sentinel, .sentinel], laidTests := true, laidLooks := .later }
def FnHeadCodesUptoCardSaid : Prop := Claim7.holds Tryd.pinned (.plain (OpenSpec.upto fnHeadCodesSpec)) fnHeadCodesUptoCard

/-- THE SECOND FORM's CARD OF 'laws.FnHeadGrown'. -/
def fnHeadGrownUptoCard : Claim7 := { stood := { row := fnHeadGrownUptoRow, standIns := [], harness := (true, "2dd848775066fa2dabab30e52e78e7a18c4ed00d29c367296a9889832e66133f"), looks := true }, kinds := [], alts := [], laidByText := true, laidKinds := [.sentinel, .sentinel, .sentinel, .sentinel], laidTests := true, laidLooks := .later }
def FnHeadGrownUptoCardSaid : Prop := Claim7.holds Tryd.pinned (.plain (OpenSpec.upto fnHeadGrownSpec)) fnHeadGrownUptoCard

/-- THE SECOND FORM's CARD OF 'laws.FnHeadFirst'. -/
def fnHeadFirstUptoCard : Claim7 := { stood := { row := fnHeadFirstUptoRow, standIns := [], harness := (true, "2dd848775066fa2dabab30e52e78e7a18c4ed00d29c367296a9889832e66133f"), looks := true }, kinds := [], alts := [], laidByText := true, laidKinds := [.sentinel, .sentinel, .sentinel, .sentinel], laidTests := true, laidLooks := .later }
def FnHeadFirstUptoCardSaid : Prop := Claim7.holds Tryd.pinned (.plain (OpenSpec.upto fnHeadFirstSpec)) fnHeadFirstUptoCard

/-- THE SECOND FORM's CARD OF 'laws.FnHeadUnsigned'. -/
def fnHeadUnsignedUptoCard : Claim7 := { stood := { row := fnHeadUnsignedUptoRow, standIns := [], harness := (true, "2dd848775066fa2dabab30e52e78e7a18c4ed00d29c367296a9889832e66133f"), looks := true }, kinds := [], alts := [], laidByText := true, laidKinds := [.sentinel, .sentinel, .sentinel, .sentinel], laidTests := true, laidLooks := .later }
def FnHeadUnsignedUptoCardSaid : Prop := Claim7.holds Tryd.pinned (.plain (OpenSpec.upto fnHeadUnsignedSpec)) fnHeadUnsignedUptoCard

/-- THE SECOND FORM's CARD OF 'laws.FnExactFeedHead'. -/
def fnExactFeedHeadUptoCard : Claim7 := { stood := { row := fnExactFeedHeadUptoRow, standIns := [], harness := (true, "2dd848775066fa2dabab30e52e78e7a18c4ed00d29c367296a9889832e66133f"), looks := true }, kinds := [], alts := [], laidByText := true, laidKinds := [.sentinel, .sentinel, .sentinel, .sentinel], laidTests := true, laidLooks := .later }
def FnExactFeedHeadUptoCardSaid : Prop := Claim7.holds Tryd.pinned (.plain (OpenSpec.upto fnExactFeedHeadSpec)) fnExactFeedHeadUptoCard

/-- THE SECOND FORM's CARD OF 'laws.FnForkHead'. -/
def fnForkHeadUptoCard : Claim7 := { stood := { row := fnForkHeadUptoRow, standIns := [], harness := (true, "2dd848775066fa2dabab30e52e78e7a18c4ed00d29c367296a9889832e66133f"), looks := true }, kinds := [], alts := [], laidByText := true, laidKinds := [.sentinel, .sentinel, .sentinel, .sentinel], laidTests := true, laidLooks := .later }
def FnForkHeadUptoCardSaid : Prop := Claim7.holds Tryd.pinned (.plain (OpenSpec.upto fnForkHeadSpec)) fnForkHeadUptoCard
end Rows
end Go.Proofs.YtlpdoieiiadhhaaDoor
