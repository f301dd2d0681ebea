/-
  DERIVED. GIVEN WITH THE SEED: THE CARDS: each row of YtgcaipjknpcepabDoorRows.lean that lists a variable, with what it lists TIED to the program's text (the seventh form; the later family's looks); each row that meets fmt, with fmt's text TOLD by the authors' own Lean function (tested against real Go, not proved from fmt's source: count such statements apart). THE CARD IS WHAT COUNTS. Prove the row's statement (the work); the ties are given (YtgcaipjknpcepabDoorTie.lean); close each card by the builder's one call (the guide's Derived/Test/ToyasCard.lean, 'card_holds'). Laid BY PROGRAM, IN A SANDBOX (cutbox-door.mjs). By AI agents, Wed Nov 11 2026. No macro, syntax, notation, axiom, sorry.
-/
import Derived.Test.YtgcaipjknpcepabDoorRows
import GoSem.ClaimSeven
namespace Go.Proofs.YtgcaipjknpcepabDoor
namespace Rows

/-- THE TIED CARD OF 'laws.FnExactShiftPhases'. -/
def fnExactShiftPhasesCard : Claim7 := { stood := { row := fnExactShiftPhasesRow, standIns := [], harness := (true, "91d7bf4d98dcdda4adeb8a40a08dedd7488ebe7b30b1cebe034041acd55c78d5"), looks := false }, kinds := [], alts := [], laidByText := true, laidKinds := [.data, .pinned], laidTests := true, laidLooks := .later }
def FnExactShiftPhasesCardSaid : Prop := Claim7.holds Tryd.pinned (.plain (OpenSpec.ofChange fnExactShiftPhasesSpec)) fnExactShiftPhasesCard

/-- THE TIED CARD OF 'laws.FnExactNormalPattern'. -/
def fnExactNormalPatternCard : Claim7 := { stood := { row := fnExactNormalPatternRow, standIns := [], harness := (true, "91d7bf4d98dcdda4adeb8a40a08dedd7488ebe7b30b1cebe034041acd55c78d5"), looks := false }, kinds := [], alts := [], laidByText := true, laidKinds := [.data, .pinned], laidTests := true, laidLooks := .later }
def FnExactNormalPatternCardSaid : Prop := Claim7.holds Tryd.pinned (.plain (OpenSpec.ofChange fnExactNormalPatternSpec)) fnExactNormalPatternCard

/-- THE TIED CARD OF 'laws.FnExactFlashesIn'. -/
def fnExactFlashesInCard : Claim7 := { stood := { row := fnExactFlashesInRow, standIns := [], harness := (true, "91d7bf4d98dcdda4adeb8a40a08dedd7488ebe7b30b1cebe034041acd55c78d5"), looks := false }, kinds := [], alts := [], laidByText := true, laidKinds := [.data, .pinned], laidTests := true, laidLooks := .later }
def FnExactFlashesInCardSaid : Prop := Claim7.holds Tryd.pinned (.plain (OpenSpec.ofChange fnExactFlashesInSpec)) fnExactFlashesInCard

/-- THE TIED CARD OF 'laws.FnExactLongestDarkOf'. -/
def fnExactLongestDarkOfCard : Claim7 := { stood := { row := fnExactLongestDarkOfRow, standIns := [], harness := (true, "91d7bf4d98dcdda4adeb8a40a08dedd7488ebe7b30b1cebe034041acd55c78d5"), looks := false }, kinds := [], alts := [], laidByText := true, laidKinds := [.data, .pinned], laidTests := true, laidLooks := .later }
def FnExactLongestDarkOfCardSaid : Prop := Claim7.holds Tryd.pinned (.plain (OpenSpec.ofChange fnExactLongestDarkOfSpec)) fnExactLongestDarkOfCard

/-- THE SECOND FORM's CARD OF 'laws.FnExactShiftPhases'. -/
def fnExactShiftPhasesUptoCard : Claim7 := { stood := { row := fnExactShiftPhasesUptoRow, standIns := [], harness := (true, "91d7bf4d98dcdda4adeb8a40a08dedd7488ebe7b30b1cebe034041acd55c78d5"), looks := false }, kinds := [], alts := [], laidByText := true, laidKinds := [.data, .pinned], laidTests := true, laidLooks := .later }
def FnExactShiftPhasesUptoCardSaid : Prop := Claim7.holds Tryd.pinned (.plain (OpenSpec.upto fnExactShiftPhasesSpec)) fnExactShiftPhasesUptoCard

/-- THE SECOND FORM's CARD OF 'laws.FnExactNormalPattern'. -/
def fnExactNormalPatternUptoCard : Claim7 := { stood := { row := fnExactNormalPatternUptoRow, standIns := [], harness := (true, "91d7bf4d98dcdda4adeb8a40a08dedd7488ebe7b30b1cebe034041acd55c78d5"), looks := false }, kinds := [], alts := [], laidByText := true, laidKinds := [.data, .pinned], laidTests := true, laidLooks := .later }
def FnExactNormalPatternUptoCardSaid : Prop := Claim7.holds Tryd.pinned (.plain (OpenSpec.upto fnExactNormalPatternSpec)) fnExactNormalPatternUptoCard

/-- THE SECOND FORM's CARD OF 'laws.FnExactFlashesIn'. -/
def fnExactFlashesInUptoCard : Claim7 := { stood := { row := fnExactFlashesInUptoRow, standIns := [], harness := (true, "91d7bf4d98dcdda4adeb8a40a08dedd7488ebe7b30b1cebe034041acd55c78d5"), looks := false }, kinds := [], alts := [], laidByText := true, laidKinds := [.data, .pinned], laidTests := true, laidLooks := .later }
def FnExactFlashesInUptoCardSaid : Prop := Claim7.holds Tryd.pinned (.plain (OpenSpec.upto fnExactFlashesInSpec)) fnExactFlashesInUptoCard

/-- THE SECOND FORM's CARD OF 'laws.FnExactLongestDarkOf'. -/
def fnExactLongestDarkOfUptoCard : Claim7 := { stood := { row := fnExactLongestDarkOfUptoRow, standIns := [], harness := (true, "91d7bf4d98dcdda4adeb8a40a08dedd7488ebe7b30b1cebe034041acd55c78d5"), looks := false }, kinds := [], alts := [], laidByText := true, laidKinds := [.data, .pinned], laidTests := true, laidLooks := .later }
def FnExactLongestDarkOfUptoCardSaid : Prop := Claim7.holds Tryd.pinned (.plain (OpenSpec.upto fnExactLongestDarkOfSpec)) fnExactLongestDarkOfUptoCard
end Rows
end Go.Proofs.YtgcaipjknpcepabDoor
