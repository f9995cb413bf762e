/-
  DERIVED. GIVEN WITH THE SEED: THE CARDS: each row of YtgklkceoafohmaaDoorRows.lean that lists a variable, with what it lists TIED to the program's text (the seventh form; the later family's looks); each row that meets fmt, with fmt's text TOLD by the authors' own Lean function (tested against real Go, not proved from fmt's source: count such statements apart). THE CARD IS WHAT COUNTS. Prove the row's statement (the work); the ties are given (YtgklkceoafohmaaDoorTie.lean); close each card by the builder's one call (the guide's Derived/Test/ToyasCard.lean, 'card_holds'). Laid BY PROGRAM, IN A SANDBOX (cutbox-door.mjs). By AI agents, Wed Nov 11 2026. No macro, syntax, notation, axiom, sorry.
-/
import Derived.Test.YtgklkceoafohmaaDoorRows
import GoSem.ClaimSeven
namespace Go.Proofs.YtgklkceoafohmaaDoor
namespace Rows

/-- THE TIED CARD OF 'laws.FnPut'. -/
def fnPutCard : Claim7 := { stood := { row := fnPutRow, standIns := [], harness := (true, "f917996cbc3f09cd97e15c683c8ecfd833e45bd94a46b2eb511b9a0b6325f82d"), looks := false }, kinds := [], alts := [], laidByText := true, laidKinds := [.data, .data], laidTests := true, laidLooks := .later }
def FnPutCardSaid : Prop := Claim7.holds Tryd.pinned (.plain (OpenSpec.ofChange fnPutSpec)) fnPutCard

/-- THE TIED CARD OF 'laws.FnPutProof'. -/
def fnPutProofCard : Claim7 := { stood := { row := fnPutProofRow, standIns := [], harness := (true, "f917996cbc3f09cd97e15c683c8ecfd833e45bd94a46b2eb511b9a0b6325f82d"), looks := false }, kinds := [], alts := [], laidByText := true, laidKinds := [.data, .data], laidTests := true, laidLooks := .later }
def FnPutProofCardSaid : Prop := Claim7.holds Tryd.pinned (.plain (OpenSpec.ofChange fnPutProofSpec)) fnPutProofCard

/-- THE TIED CARD OF 'laws.FnPutTwice'. -/
def fnPutTwiceCard : Claim7 := { stood := { row := fnPutTwiceRow, standIns := [], harness := (true, "f917996cbc3f09cd97e15c683c8ecfd833e45bd94a46b2eb511b9a0b6325f82d"), looks := false }, kinds := [], alts := [], laidByText := true, laidKinds := [.data, .data], laidTests := true, laidLooks := .later }
def FnPutTwiceCardSaid : Prop := Claim7.holds Tryd.pinned (.plain (OpenSpec.ofChange fnPutTwiceSpec)) fnPutTwiceCard

/-- THE TIED CARD OF 'laws.FnPutWhole'. -/
def fnPutWholeCard : Claim7 := { stood := { row := fnPutWholeRow, standIns := [], harness := (true, "f917996cbc3f09cd97e15c683c8ecfd833e45bd94a46b2eb511b9a0b6325f82d"), looks := false }, kinds := [], alts := [], laidByText := true, laidKinds := [.data, .data], laidTests := true, laidLooks := .later }
def FnPutWholeCardSaid : Prop := Claim7.holds Tryd.pinned (.plain (OpenSpec.ofChange fnPutWholeSpec)) fnPutWholeCard

/-- THE TIED CARD OF 'laws.FnPutCount'. -/
def fnPutCountCard : Claim7 := { stood := { row := fnPutCountRow, standIns := [], harness := (true, "f917996cbc3f09cd97e15c683c8ecfd833e45bd94a46b2eb511b9a0b6325f82d"), looks := false }, kinds := [], alts := [], laidByText := true, laidKinds := [.data, .data], laidTests := true, laidLooks := .later }
def FnPutCountCardSaid : Prop := Claim7.holds Tryd.pinned (.plain (OpenSpec.ofChange fnPutCountSpec)) fnPutCountCard

/-- THE TIED CARD OF 'laws.FnExactFeedPut'. -/
def fnExactFeedPutCard : Claim7 := { stood := { row := fnExactFeedPutRow, standIns := [], harness := (true, "f917996cbc3f09cd97e15c683c8ecfd833e45bd94a46b2eb511b9a0b6325f82d"), looks := false }, kinds := [], alts := [], laidByText := true, laidKinds := [.data, .data], laidTests := true, laidLooks := .later }
def FnExactFeedPutCardSaid : Prop := Claim7.holds Tryd.pinned (.plain (OpenSpec.ofChange fnExactFeedPutSpec)) fnExactFeedPutCard

/-- THE SECOND FORM's CARD OF 'laws.FnPut'. -/
def fnPutUptoCard : Claim7 := { stood := { row := fnPutUptoRow, standIns := [], harness := (true, "f917996cbc3f09cd97e15c683c8ecfd833e45bd94a46b2eb511b9a0b6325f82d"), looks := false }, kinds := [], alts := [], laidByText := true, laidKinds := [.data, .data], laidTests := true, laidLooks := .later }
def FnPutUptoCardSaid : Prop := Claim7.holds Tryd.pinned (.plain (OpenSpec.upto fnPutSpec)) fnPutUptoCard

/-- THE SECOND FORM's CARD OF 'laws.FnPutProof'. -/
def fnPutProofUptoCard : Claim7 := { stood := { row := fnPutProofUptoRow, standIns := [], harness := (true, "f917996cbc3f09cd97e15c683c8ecfd833e45bd94a46b2eb511b9a0b6325f82d"), looks := false }, kinds := [], alts := [], laidByText := true, laidKinds := [.data, .data], laidTests := true, laidLooks := .later }
def FnPutProofUptoCardSaid : Prop := Claim7.holds Tryd.pinned (.plain (OpenSpec.upto fnPutProofSpec)) fnPutProofUptoCard

/-- THE SECOND FORM's CARD OF 'laws.FnPutTwice'. -/
def fnPutTwiceUptoCard : Claim7 := { stood := { row := fnPutTwiceUptoRow, standIns := [], harness := (true, "f917996cbc3f09cd97e15c683c8ecfd833e45bd94a46b2eb511b9a0b6325f82d"), looks := false }, kinds := [], alts := [], laidByText := true, laidKinds := [.data, .data], laidTests := true, laidLooks := .later }
def FnPutTwiceUptoCardSaid : Prop := Claim7.holds Tryd.pinned (.plain (OpenSpec.upto fnPutTwiceSpec)) fnPutTwiceUptoCard

/-- THE SECOND FORM's CARD OF 'laws.FnPutWhole'. -/
def fnPutWholeUptoCard : Claim7 := { stood := { row := fnPutWholeUptoRow, standIns := [], harness := (true, "f917996cbc3f09cd97e15c683c8ecfd833e45bd94a46b2eb511b9a0b6325f82d"), looks := false }, kinds := [], alts := [], laidByText := true, laidKinds := [.data, .data], laidTests := true, laidLooks := .later }
def FnPutWholeUptoCardSaid : Prop := Claim7.holds Tryd.pinned (.plain (OpenSpec.upto fnPutWholeSpec)) fnPutWholeUptoCard

/-- THE SECOND FORM's CARD OF 'laws.FnPutCount'. -/
def fnPutCountUptoCard : Claim7 := { stood := { row := fnPutCountUptoRow, standIns := [], harness := (true, "f917996cbc3f09cd97e15c683c8ecfd833e45bd94a46b2eb511b9a0b6325f82d"), looks := false }, kinds := [], alts := [], laidByText := true, laidKinds := [.data, .data], laidTests := true, laidLooks := .later }
def FnPutCountUptoCardSaid : Prop := Claim7.holds Tryd.pinned (.plain (OpenSpec.upto fnPutCountSpec)) fnPutCountUptoCard

/-- THE SECOND FORM's CARD OF 'laws.FnExactFeedPut'. -/
def fnExactFeedPutUptoCard : Claim7 := { stood := { row := fnExactFeedPutUptoRow, standIns := [], harness := (true, "f917996cbc3f09cd97e15c683c8ecfd833e45bd94a46b2eb511b9a0b6325f82d"), looks := false }, kinds := [], alts := [], laidByText := true, laidKinds := [.data, .data], laidTests := true, laidLooks := .later }
def FnExactFeedPutUptoCardSaid : Prop := Claim7.holds Tryd.pinned (.plain (OpenSpec.upto fnExactFeedPutSpec)) fnExactFeedPutUptoCard
end Rows
end Go.Proofs.YtgklkceoafohmaaDoor
