/-
  DERIVED. GIVEN WITH THE SEED: THE CARDS: each row of YtochniaofmeheaaDoorRows.lean that lists a variable, with what it lists TIED to the program's text (the seventh form; the later family's looks); each row that meets fmt, with fmt's text TOLD by the authors' own Lean function (tested against real Go, not proved from fmt's source: count such statements apart). THE CARD IS WHAT COUNTS. Prove the row's statement (the work); the ties are given (YtochniaofmeheaaDoorTie.lean); close each card by the builder's one call (the guide's Derived/Test/ToyasCard.lean, 'card_holds'). Laid BY PROGRAM, IN A SANDBOX (cutbox-door.mjs). By AI agents, Wed Nov 11 2026. No macro, syntax, notation, axiom, sorry.
-/
import Derived.Test.YtochniaofmeheaaDoorRows
import GoSem.ClaimSeven
namespace Go.Proofs.YtochniaofmeheaaDoor
namespace Rows

/-- THE TIED CARD OF 'laws.FnBearings'. -/
def fnBearingsCard : Claim7 := { stood := { row := fnBearingsRow, standIns := [], harness := (true, "f3a7c0ec12f9a06285a149afb5b3b23636036faff82756b00947ee539a63ffb2"), looks := false }, kinds := [], alts := [], laidByText := true, laidKinds := [.data], laidTests := true, laidLooks := .later }
def FnBearingsCardSaid : Prop := Claim7.holds Tryd.pinned (.plain (OpenSpec.ofChange fnBearingsSpec)) fnBearingsCard

/-- THE TIED CARD OF 'laws.FnExactSine'. -/
def fnExactSineCard : Claim7 := { stood := { row := fnExactSineRow, standIns := [], harness := (true, "f3a7c0ec12f9a06285a149afb5b3b23636036faff82756b00947ee539a63ffb2"), looks := false }, kinds := [], alts := [], laidByText := true, laidKinds := [.data], laidTests := true, laidLooks := .later }
def FnExactSineCardSaid : Prop := Claim7.holds Tryd.pinned (.plain (OpenSpec.ofChange fnExactSineSpec)) fnExactSineCard

/-- THE TIED CARD OF 'laws.FnExactCosine'. -/
def fnExactCosineCard : Claim7 := { stood := { row := fnExactCosineRow, standIns := [], harness := (true, "f3a7c0ec12f9a06285a149afb5b3b23636036faff82756b00947ee539a63ffb2"), looks := false }, kinds := [], alts := [], laidByText := true, laidKinds := [.data], laidTests := true, laidLooks := .later }
def FnExactCosineCardSaid : Prop := Claim7.holds Tryd.pinned (.plain (OpenSpec.ofChange fnExactCosineSpec)) fnExactCosineCard

/-- THE TIED CARD OF 'laws.FnExactBearing'. -/
def fnExactBearingCard : Claim7 := { stood := { row := fnExactBearingRow, standIns := [], harness := (true, "f3a7c0ec12f9a06285a149afb5b3b23636036faff82756b00947ee539a63ffb2"), looks := false }, kinds := [], alts := [], laidByText := true, laidKinds := [.data], laidTests := true, laidLooks := .later }
def FnExactBearingCardSaid : Prop := Claim7.holds Tryd.pinned (.plain (OpenSpec.ofChange fnExactBearingSpec)) fnExactBearingCard

/-- THE TIED CARD OF 'laws.FnExactMove'. -/
def fnExactMoveCard : Claim7 := { stood := { row := fnExactMoveRow, standIns := [], harness := (true, "f3a7c0ec12f9a06285a149afb5b3b23636036faff82756b00947ee539a63ffb2"), looks := false }, kinds := [], alts := [], laidByText := true, laidKinds := [.data], laidTests := true, laidLooks := .later }
def FnExactMoveCardSaid : Prop := Claim7.holds Tryd.pinned (.plain (OpenSpec.ofChange fnExactMoveSpec)) fnExactMoveCard

/-- THE SECOND FORM's CARD OF 'laws.FnBearings'. -/
def fnBearingsUptoCard : Claim7 := { stood := { row := fnBearingsUptoRow, standIns := [], harness := (true, "f3a7c0ec12f9a06285a149afb5b3b23636036faff82756b00947ee539a63ffb2"), looks := false }, kinds := [], alts := [], laidByText := true, laidKinds := [.data], laidTests := true, laidLooks := .later }
def FnBearingsUptoCardSaid : Prop := Claim7.holds Tryd.pinned (.plain (OpenSpec.upto fnBearingsSpec)) fnBearingsUptoCard

/-- THE SECOND FORM's CARD OF 'laws.FnExactSine'. -/
def fnExactSineUptoCard : Claim7 := { stood := { row := fnExactSineUptoRow, standIns := [], harness := (true, "f3a7c0ec12f9a06285a149afb5b3b23636036faff82756b00947ee539a63ffb2"), looks := false }, kinds := [], alts := [], laidByText := true, laidKinds := [.data], laidTests := true, laidLooks := .later }
def FnExactSineUptoCardSaid : Prop := Claim7.holds Tryd.pinned (.plain (OpenSpec.upto fnExactSineSpec)) fnExactSineUptoCard

/-- THE SECOND FORM's CARD OF 'laws.FnExactCosine'. -/
def fnExactCosineUptoCard : Claim7 := { stood := { row := fnExactCosineUptoRow, standIns := [], harness := (true, "f3a7c0ec12f9a06285a149afb5b3b23636036faff82756b00947ee539a63ffb2"), looks := false }, kinds := [], alts := [], laidByText := true, laidKinds := [.data], laidTests := true, laidLooks := .later }
def FnExactCosineUptoCardSaid : Prop := Claim7.holds Tryd.pinned (.plain (OpenSpec.upto fnExactCosineSpec)) fnExactCosineUptoCard

/-- THE SECOND FORM's CARD OF 'laws.FnExactBearing'. -/
def fnExactBearingUptoCard : Claim7 := { stood := { row := fnExactBearingUptoRow, standIns := [], harness := (true, "f3a7c0ec12f9a06285a149afb5b3b23636036faff82756b00947ee539a63ffb2"), looks := false }, kinds := [], alts := [], laidByText := true, laidKinds := [.data], laidTests := true, laidLooks := .later }
def FnExactBearingUptoCardSaid : Prop := Claim7.holds Tryd.pinned (.plain (OpenSpec.upto fnExactBearingSpec)) fnExactBearingUptoCard

/-- THE SECOND FORM's CARD OF 'laws.FnExactMove'. -/
def fnExactMoveUptoCard : Claim7 := { stood := { row := fnExactMoveUptoRow, standIns := [], harness := (true, "f3a7c0ec12f9a06285a149afb5b3b23636036faff82756b00947ee539a63ffb2"), looks := false }, kinds := [], alts := [], laidByText := true, laidKinds := [.data], laidTests := true, laidLooks := .later }
def FnExactMoveUptoCardSaid : Prop := Claim7.holds Tryd.pinned (.plain (OpenSpec.upto fnExactMoveSpec)) fnExactMoveUptoCard
end Rows
end Go.Proofs.YtochniaofmeheaaDoor
