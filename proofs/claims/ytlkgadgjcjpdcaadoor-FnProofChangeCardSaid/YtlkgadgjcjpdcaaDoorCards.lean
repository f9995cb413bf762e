/-
  DERIVED. GIVEN WITH THE SEED: THE CARDS: each row of YtlkgadgjcjpdcaaDoorRows.lean that lists a variable, with what it lists TIED to the program's text (the seventh form; the later family's looks); each row that meets fmt, with fmt's text TOLD by the authors' own Lean function (tested against real Go, not proved from fmt's source: count such statements apart). THE CARD IS WHAT COUNTS. Prove the row's statement (the work); the ties are given (YtlkgadgjcjpdcaaDoorTie.lean); close each card by the builder's one call (the guide's Derived/Test/ToyasCard.lean, 'card_holds'). Laid BY PROGRAM, IN A SANDBOX (cutbox-door.mjs). By AI agents, Wed Nov 11 2026. No macro, syntax, notation, axiom, sorry.
-/
import Derived.Test.YtlkgadgjcjpdcaaDoorRows
import GoSem.ClaimSeven
namespace Go.Proofs.YtlkgadgjcjpdcaaDoor
namespace Rows

/-- THE TIED CARD OF 'laws.FnProof'. -/
def fnProofCard : Claim7 := { stood := { row := fnProofRow, standIns := [], harness := (true, "ee28429a11841940956ccc801e6e2d26206bf51e824a7fd922ec0d671a0a6cc1"), looks := false }, kinds := [], alts := [], laidByText := true, laidKinds := [.data, .data], laidTests := true, laidLooks := .later }
def FnProofCardSaid : Prop := Claim7.holds Tryd.pinned (.plain (OpenSpec.ofChange fnProofSpec)) fnProofCard

/-- THE TIED CARD OF 'laws.FnProofLeaf'. -/
def fnProofLeafCard : Claim7 := { stood := { row := fnProofLeafRow, standIns := [], harness := (true, "ee28429a11841940956ccc801e6e2d26206bf51e824a7fd922ec0d671a0a6cc1"), looks := false }, kinds := [], alts := [], laidByText := true, laidKinds := [.data, .data], laidTests := true, laidLooks := .later }
def FnProofLeafCardSaid : Prop := Claim7.holds Tryd.pinned (.plain (OpenSpec.ofChange fnProofLeafSpec)) fnProofLeafCard

/-- THE TIED CARD OF 'laws.FnProofLength'. -/
def fnProofLengthCard : Claim7 := { stood := { row := fnProofLengthRow, standIns := [], harness := (true, "ee28429a11841940956ccc801e6e2d26206bf51e824a7fd922ec0d671a0a6cc1"), looks := false }, kinds := [], alts := [], laidByText := true, laidKinds := [.data, .data], laidTests := true, laidLooks := .later }
def FnProofLengthCardSaid : Prop := Claim7.holds Tryd.pinned (.plain (OpenSpec.ofChange fnProofLengthSpec)) fnProofLengthCard

/-- THE TIED CARD OF 'laws.FnProofChange'. -/
def fnProofChangeCard : Claim7 := { stood := { row := fnProofChangeRow, standIns := [], harness := (true, "ee28429a11841940956ccc801e6e2d26206bf51e824a7fd922ec0d671a0a6cc1"), looks := false }, kinds := [], alts := [], laidByText := true, laidKinds := [.data, .data], laidTests := true, laidLooks := .later }
def FnProofChangeCardSaid : Prop := Claim7.holds Tryd.pinned (.plain (OpenSpec.ofChange fnProofChangeSpec)) fnProofChangeCard

/-- THE TIED CARD OF 'laws.FnExactTreeCheck'. -/
def fnExactTreeCheckCard : Claim7 := { stood := { row := fnExactTreeCheckRow, standIns := [], harness := (true, "ee28429a11841940956ccc801e6e2d26206bf51e824a7fd922ec0d671a0a6cc1"), looks := false }, kinds := [], alts := [], laidByText := true, laidKinds := [.data, .data], laidTests := true, laidLooks := .later }
def FnExactTreeCheckCardSaid : Prop := Claim7.holds Tryd.pinned (.plain (OpenSpec.ofChange fnExactTreeCheckSpec)) fnExactTreeCheckCard

/-- THE SECOND FORM's CARD OF 'laws.FnProof'. -/
def fnProofUptoCard : Claim7 := { stood := { row := fnProofUptoRow, standIns := [], harness := (true, "ee28429a11841940956ccc801e6e2d26206bf51e824a7fd922ec0d671a0a6cc1"), looks := false }, kinds := [], alts := [], laidByText := true, laidKinds := [.data, .data], laidTests := true, laidLooks := .later }
def FnProofUptoCardSaid : Prop := Claim7.holds Tryd.pinned (.plain (OpenSpec.upto fnProofSpec)) fnProofUptoCard

/-- THE SECOND FORM's CARD OF 'laws.FnProofLeaf'. -/
def fnProofLeafUptoCard : Claim7 := { stood := { row := fnProofLeafUptoRow, standIns := [], harness := (true, "ee28429a11841940956ccc801e6e2d26206bf51e824a7fd922ec0d671a0a6cc1"), looks := false }, kinds := [], alts := [], laidByText := true, laidKinds := [.data, .data], laidTests := true, laidLooks := .later }
def FnProofLeafUptoCardSaid : Prop := Claim7.holds Tryd.pinned (.plain (OpenSpec.upto fnProofLeafSpec)) fnProofLeafUptoCard

/-- THE SECOND FORM's CARD OF 'laws.FnProofLength'. -/
def fnProofLengthUptoCard : Claim7 := { stood := { row := fnProofLengthUptoRow, standIns := [], harness := (true, "ee28429a11841940956ccc801e6e2d26206bf51e824a7fd922ec0d671a0a6cc1"), looks := false }, kinds := [], alts := [], laidByText := true, laidKinds := [.data, .data], laidTests := true, laidLooks := .later }
def FnProofLengthUptoCardSaid : Prop := Claim7.holds Tryd.pinned (.plain (OpenSpec.upto fnProofLengthSpec)) fnProofLengthUptoCard

/-- THE SECOND FORM's CARD OF 'laws.FnProofChange'. -/
def fnProofChangeUptoCard : Claim7 := { stood := { row := fnProofChangeUptoRow, standIns := [], harness := (true, "ee28429a11841940956ccc801e6e2d26206bf51e824a7fd922ec0d671a0a6cc1"), looks := false }, kinds := [], alts := [], laidByText := true, laidKinds := [.data, .data], laidTests := true, laidLooks := .later }
def FnProofChangeUptoCardSaid : Prop := Claim7.holds Tryd.pinned (.plain (OpenSpec.upto fnProofChangeSpec)) fnProofChangeUptoCard

/-- THE SECOND FORM's CARD OF 'laws.FnExactTreeCheck'. -/
def fnExactTreeCheckUptoCard : Claim7 := { stood := { row := fnExactTreeCheckUptoRow, standIns := [], harness := (true, "ee28429a11841940956ccc801e6e2d26206bf51e824a7fd922ec0d671a0a6cc1"), looks := false }, kinds := [], alts := [], laidByText := true, laidKinds := [.data, .data], laidTests := true, laidLooks := .later }
def FnExactTreeCheckUptoCardSaid : Prop := Claim7.holds Tryd.pinned (.plain (OpenSpec.upto fnExactTreeCheckSpec)) fnExactTreeCheckUptoCard
end Rows
end Go.Proofs.YtlkgadgjcjpdcaaDoor
