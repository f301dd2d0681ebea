/-
  DERIVED. GIVEN WITH THE SEED: THE CARDS: each row of YthccbipjmheoaaaDoorRows.lean that lists a variable, with what it lists TIED to the program's text (the seventh form; the later family's looks); each row that meets fmt, with fmt's text TOLD by the authors' own Lean function (tested against real Go, not proved from fmt's source: count such statements apart). THE CARD IS WHAT COUNTS. Prove the row's statement (the work); the ties are given (YthccbipjmheoaaaDoorTie.lean); close each card by the builder's one call (the guide's Derived/Test/ToyasCard.lean, 'card_holds'). Laid BY PROGRAM, IN A SANDBOX (cutbox-door.mjs). By AI agents, Wed Nov 11 2026. No macro, syntax, notation, axiom, sorry.
-/
import Derived.Test.YthccbipjmheoaaaDoorRows
import GoSem.ClaimSeven
namespace Go.Proofs.YthccbipjmheoaaaDoor
namespace Rows

/-- THE TIED CARD OF 'laws.FnExactCardinalAt'. -/
def fnExactCardinalAtCard : Claim7 := { stood := { row := fnExactCardinalAtRow, standIns := [], harness := (true, "510c5f2c8ceb2749c9ba4db7934baa61532304fc4bcc1b98d099197a4b57202c"), looks := false }, kinds := [], alts := [], laidByText := true, laidKinds := [.data], laidTests := true, laidLooks := .later }
def FnExactCardinalAtCardSaid : Prop := Claim7.holds Tryd.pinned (.plain (OpenSpec.ofChange fnExactCardinalAtSpec)) fnExactCardinalAtCard

/-- THE TIED CARD OF 'laws.FnExactCardinalPlaces'. -/
def fnExactCardinalPlacesCard : Claim7 := { stood := { row := fnExactCardinalPlacesRow, standIns := [], harness := (true, "510c5f2c8ceb2749c9ba4db7934baa61532304fc4bcc1b98d099197a4b57202c"), looks := false }, kinds := [], alts := [], laidByText := true, laidKinds := [.data], laidTests := true, laidLooks := .later }
def FnExactCardinalPlacesCardSaid : Prop := Claim7.holds Tryd.pinned (.plain (OpenSpec.ofChange fnExactCardinalPlacesSpec)) fnExactCardinalPlacesCard

/-- THE TIED CARD OF 'laws.FnExactDangerText'. -/
def fnExactDangerTextCard : Claim7 := { stood := { row := fnExactDangerTextRow, standIns := [], harness := (true, "510c5f2c8ceb2749c9ba4db7934baa61532304fc4bcc1b98d099197a4b57202c"), looks := false }, kinds := [], alts := [], laidByText := true, laidKinds := [.data, .data, .data], laidTests := true, laidLooks := .later }
def FnExactDangerTextCardSaid : Prop := Claim7.holds Tryd.pinned (.plain (OpenSpec.ofChange fnExactDangerTextSpec)) fnExactDangerTextCard

/-- THE SECOND FORM's CARD OF 'laws.FnExactCardinalAt'. -/
def fnExactCardinalAtUptoCard : Claim7 := { stood := { row := fnExactCardinalAtUptoRow, standIns := [], harness := (true, "510c5f2c8ceb2749c9ba4db7934baa61532304fc4bcc1b98d099197a4b57202c"), looks := false }, kinds := [], alts := [], laidByText := true, laidKinds := [.data], laidTests := true, laidLooks := .later }
def FnExactCardinalAtUptoCardSaid : Prop := Claim7.holds Tryd.pinned (.plain (OpenSpec.upto fnExactCardinalAtSpec)) fnExactCardinalAtUptoCard

/-- THE SECOND FORM's CARD OF 'laws.FnExactCardinalPlaces'. -/
def fnExactCardinalPlacesUptoCard : Claim7 := { stood := { row := fnExactCardinalPlacesUptoRow, standIns := [], harness := (true, "510c5f2c8ceb2749c9ba4db7934baa61532304fc4bcc1b98d099197a4b57202c"), looks := false }, kinds := [], alts := [], laidByText := true, laidKinds := [.data], laidTests := true, laidLooks := .later }
def FnExactCardinalPlacesUptoCardSaid : Prop := Claim7.holds Tryd.pinned (.plain (OpenSpec.upto fnExactCardinalPlacesSpec)) fnExactCardinalPlacesUptoCard

/-- THE SECOND FORM's CARD OF 'laws.FnExactDangerText'. -/
def fnExactDangerTextUptoCard : Claim7 := { stood := { row := fnExactDangerTextUptoRow, standIns := [], harness := (true, "510c5f2c8ceb2749c9ba4db7934baa61532304fc4bcc1b98d099197a4b57202c"), looks := false }, kinds := [], alts := [], laidByText := true, laidKinds := [.data, .data, .data], laidTests := true, laidLooks := .later }
def FnExactDangerTextUptoCardSaid : Prop := Claim7.holds Tryd.pinned (.plain (OpenSpec.upto fnExactDangerTextSpec)) fnExactDangerTextUptoCard
end Rows
end Go.Proofs.YthccbipjmheoaaaDoor
