/-
  DERIVED. GIVEN WITH THE SEED: THE CARDS: each row of YthggoboljkdldaaDoorRows.lean that lists a variable, with what it lists TIED to the program's text (the seventh form; the later family's looks); each row that meets fmt, with fmt's text TOLD by the authors' own Lean function (tested against real Go, not proved from fmt's source: count such statements apart). THE CARD IS WHAT COUNTS. Prove the row's statement (the work); the ties are given (YthggoboljkdldaaDoorTie.lean); close each card by the builder's one call (the guide's Derived/Test/ToyasCard.lean, 'card_holds'). Laid BY PROGRAM, IN A SANDBOX (cutbox-door.mjs). By AI agents, Wed Nov 11 2026. No macro, syntax, notation, axiom, sorry.
-/
import Derived.Test.YthggoboljkdldaaDoorRows
import GoSem.ClaimSeven
namespace Go.Proofs.YthggoboljkdldaaDoor
namespace Rows

/-- THE TIED CARD OF 'laws.FnExactKindText'. -/
def fnExactKindTextCard : Claim7 := { stood := { row := fnExactKindTextRow, standIns := [], harness := (true, "9c81eccc3f07fedeaac7b066e606aa6f388969ad395cc57ff365882089af57ca"), looks := false }, kinds := [], alts := [], laidByText := true, laidKinds := [.data], laidTests := true, laidLooks := .later }
def FnExactKindTextCardSaid : Prop := Claim7.holds Tryd.pinned (.plain (OpenSpec.ofChange fnExactKindTextSpec)) fnExactKindTextCard

/-- THE TIED CARD OF 'laws.FnExactValidCharacter'. -/
def fnExactValidCharacterCard : Claim7 := { stood := { row := fnExactValidCharacterRow, standIns := [], harness := (true, "9c81eccc3f07fedeaac7b066e606aa6f388969ad395cc57ff365882089af57ca"), looks := false }, kinds := [], alts := [], laidByText := true, laidKinds := [.data], laidTests := true, laidLooks := .later }
def FnExactValidCharacterCardSaid : Prop := Claim7.holds Tryd.pinned (.plain (OpenSpec.ofChange fnExactValidCharacterSpec)) fnExactValidCharacterCard

/-- THE TIED CARD OF 'laws.FnExactFlashLength'. -/
def fnExactFlashLengthCard : Claim7 := { stood := { row := fnExactFlashLengthRow, standIns := [], harness := (true, "9c81eccc3f07fedeaac7b066e606aa6f388969ad395cc57ff365882089af57ca"), looks := false }, kinds := [], alts := [], laidByText := true, laidKinds := [.data], laidTests := true, laidLooks := .later }
def FnExactFlashLengthCardSaid : Prop := Claim7.holds Tryd.pinned (.plain (OpenSpec.ofChange fnExactFlashLengthSpec)) fnExactFlashLengthCard

/-- THE TIED CARD OF 'laws.FnExactFlashCount'. -/
def fnExactFlashCountCard : Claim7 := { stood := { row := fnExactFlashCountRow, standIns := [], harness := (true, "9c81eccc3f07fedeaac7b066e606aa6f388969ad395cc57ff365882089af57ca"), looks := false }, kinds := [], alts := [], laidByText := true, laidKinds := [.data], laidTests := true, laidLooks := .later }
def FnExactFlashCountCardSaid : Prop := Claim7.holds Tryd.pinned (.plain (OpenSpec.ofChange fnExactFlashCountSpec)) fnExactFlashCountCard

/-- THE TIED CARD OF 'laws.FnExactLeastPeriod'. -/
def fnExactLeastPeriodCard : Claim7 := { stood := { row := fnExactLeastPeriodRow, standIns := [], harness := (true, "9c81eccc3f07fedeaac7b066e606aa6f388969ad395cc57ff365882089af57ca"), looks := false }, kinds := [], alts := [], laidByText := true, laidKinds := [.data], laidTests := true, laidLooks := .later }
def FnExactLeastPeriodCardSaid : Prop := Claim7.holds Tryd.pinned (.plain (OpenSpec.ofChange fnExactLeastPeriodSpec)) fnExactLeastPeriodCard

/-- THE TIED CARD OF 'laws.FnExactPhasesOf'. -/
def fnExactPhasesOfCard : Claim7 := { stood := { row := fnExactPhasesOfRow, standIns := [], harness := (true, "9c81eccc3f07fedeaac7b066e606aa6f388969ad395cc57ff365882089af57ca"), looks := false }, kinds := [], alts := [], laidByText := true, laidKinds := [.data], laidTests := true, laidLooks := .later }
def FnExactPhasesOfCardSaid : Prop := Claim7.holds Tryd.pinned (.plain (OpenSpec.ofChange fnExactPhasesOfSpec)) fnExactPhasesOfCard

/-- THE TIED CARD OF 'laws.FnExactLitTime'. -/
def fnExactLitTimeCard : Claim7 := { stood := { row := fnExactLitTimeRow, standIns := [], harness := (true, "9c81eccc3f07fedeaac7b066e606aa6f388969ad395cc57ff365882089af57ca"), looks := false }, kinds := [], alts := [], laidByText := true, laidKinds := [.data], laidTests := true, laidLooks := .later }
def FnExactLitTimeCardSaid : Prop := Claim7.holds Tryd.pinned (.plain (OpenSpec.ofChange fnExactLitTimeSpec)) fnExactLitTimeCard

/-- THE TIED CARD OF 'laws.FnExactCharacterText'. -/
def fnExactCharacterTextCard : Claim7 := { stood := { row := fnExactCharacterTextRow, standIns := [], harness := (true, "9c81eccc3f07fedeaac7b066e606aa6f388969ad395cc57ff365882089af57ca"), looks := false }, kinds := [], alts := [], laidByText := true, laidKinds := [.data, .data, .data, .data], laidTests := true, laidLooks := .later }
def FnExactCharacterTextCardSaid : Prop := Claim7.holds Tryd.pinned (.plain (OpenSpec.ofChange fnExactCharacterTextSpec)) fnExactCharacterTextCard

/-- THE TIED CARD OF 'laws.FnExactListText'. -/
def fnExactListTextCard : Claim7 := { stood := { row := fnExactListTextRow, standIns := [], harness := (true, "9c81eccc3f07fedeaac7b066e606aa6f388969ad395cc57ff365882089af57ca"), looks := false }, kinds := [], alts := [], laidByText := true, laidKinds := [.data, .data, .data], laidTests := true, laidLooks := .later }
def FnExactListTextCardSaid : Prop := Claim7.holds Tryd.pinned (.plain (OpenSpec.ofChange fnExactListTextSpec)) fnExactListTextCard

/-- THE SECOND FORM's CARD OF 'laws.FnExactKindText'. -/
def fnExactKindTextUptoCard : Claim7 := { stood := { row := fnExactKindTextUptoRow, standIns := [], harness := (true, "9c81eccc3f07fedeaac7b066e606aa6f388969ad395cc57ff365882089af57ca"), looks := false }, kinds := [], alts := [], laidByText := true, laidKinds := [.data], laidTests := true, laidLooks := .later }
def FnExactKindTextUptoCardSaid : Prop := Claim7.holds Tryd.pinned (.plain (OpenSpec.upto fnExactKindTextSpec)) fnExactKindTextUptoCard

/-- THE SECOND FORM's CARD OF 'laws.FnExactValidCharacter'. -/
def fnExactValidCharacterUptoCard : Claim7 := { stood := { row := fnExactValidCharacterUptoRow, standIns := [], harness := (true, "9c81eccc3f07fedeaac7b066e606aa6f388969ad395cc57ff365882089af57ca"), looks := false }, kinds := [], alts := [], laidByText := true, laidKinds := [.data], laidTests := true, laidLooks := .later }
def FnExactValidCharacterUptoCardSaid : Prop := Claim7.holds Tryd.pinned (.plain (OpenSpec.upto fnExactValidCharacterSpec)) fnExactValidCharacterUptoCard

/-- THE SECOND FORM's CARD OF 'laws.FnExactFlashLength'. -/
def fnExactFlashLengthUptoCard : Claim7 := { stood := { row := fnExactFlashLengthUptoRow, standIns := [], harness := (true, "9c81eccc3f07fedeaac7b066e606aa6f388969ad395cc57ff365882089af57ca"), looks := false }, kinds := [], alts := [], laidByText := true, laidKinds := [.data], laidTests := true, laidLooks := .later }
def FnExactFlashLengthUptoCardSaid : Prop := Claim7.holds Tryd.pinned (.plain (OpenSpec.upto fnExactFlashLengthSpec)) fnExactFlashLengthUptoCard

/-- THE SECOND FORM's CARD OF 'laws.FnExactFlashCount'. -/
def fnExactFlashCountUptoCard : Claim7 := { stood := { row := fnExactFlashCountUptoRow, standIns := [], harness := (true, "9c81eccc3f07fedeaac7b066e606aa6f388969ad395cc57ff365882089af57ca"), looks := false }, kinds := [], alts := [], laidByText := true, laidKinds := [.data], laidTests := true, laidLooks := .later }
def FnExactFlashCountUptoCardSaid : Prop := Claim7.holds Tryd.pinned (.plain (OpenSpec.upto fnExactFlashCountSpec)) fnExactFlashCountUptoCard

/-- THE SECOND FORM's CARD OF 'laws.FnExactLeastPeriod'. -/
def fnExactLeastPeriodUptoCard : Claim7 := { stood := { row := fnExactLeastPeriodUptoRow, standIns := [], harness := (true, "9c81eccc3f07fedeaac7b066e606aa6f388969ad395cc57ff365882089af57ca"), looks := false }, kinds := [], alts := [], laidByText := true, laidKinds := [.data], laidTests := true, laidLooks := .later }
def FnExactLeastPeriodUptoCardSaid : Prop := Claim7.holds Tryd.pinned (.plain (OpenSpec.upto fnExactLeastPeriodSpec)) fnExactLeastPeriodUptoCard

/-- THE SECOND FORM's CARD OF 'laws.FnExactPhasesOf'. -/
def fnExactPhasesOfUptoCard : Claim7 := { stood := { row := fnExactPhasesOfUptoRow, standIns := [], harness := (true, "9c81eccc3f07fedeaac7b066e606aa6f388969ad395cc57ff365882089af57ca"), looks := false }, kinds := [], alts := [], laidByText := true, laidKinds := [.data], laidTests := true, laidLooks := .later }
def FnExactPhasesOfUptoCardSaid : Prop := Claim7.holds Tryd.pinned (.plain (OpenSpec.upto fnExactPhasesOfSpec)) fnExactPhasesOfUptoCard

/-- THE SECOND FORM's CARD OF 'laws.FnExactLitTime'. -/
def fnExactLitTimeUptoCard : Claim7 := { stood := { row := fnExactLitTimeUptoRow, standIns := [], harness := (true, "9c81eccc3f07fedeaac7b066e606aa6f388969ad395cc57ff365882089af57ca"), looks := false }, kinds := [], alts := [], laidByText := true, laidKinds := [.data], laidTests := true, laidLooks := .later }
def FnExactLitTimeUptoCardSaid : Prop := Claim7.holds Tryd.pinned (.plain (OpenSpec.upto fnExactLitTimeSpec)) fnExactLitTimeUptoCard

/-- THE SECOND FORM's CARD OF 'laws.FnExactCharacterText'. -/
def fnExactCharacterTextUptoCard : Claim7 := { stood := { row := fnExactCharacterTextUptoRow, standIns := [], harness := (true, "9c81eccc3f07fedeaac7b066e606aa6f388969ad395cc57ff365882089af57ca"), looks := false }, kinds := [], alts := [], laidByText := true, laidKinds := [.data, .data, .data, .data], laidTests := true, laidLooks := .later }
def FnExactCharacterTextUptoCardSaid : Prop := Claim7.holds Tryd.pinned (.plain (OpenSpec.upto fnExactCharacterTextSpec)) fnExactCharacterTextUptoCard

/-- THE SECOND FORM's CARD OF 'laws.FnExactListText'. -/
def fnExactListTextUptoCard : Claim7 := { stood := { row := fnExactListTextUptoRow, standIns := [], harness := (true, "9c81eccc3f07fedeaac7b066e606aa6f388969ad395cc57ff365882089af57ca"), looks := false }, kinds := [], alts := [], laidByText := true, laidKinds := [.data, .data, .data], laidTests := true, laidLooks := .later }
def FnExactListTextUptoCardSaid : Prop := Claim7.holds Tryd.pinned (.plain (OpenSpec.upto fnExactListTextSpec)) fnExactListTextUptoCard
end Rows
end Go.Proofs.YthggoboljkdldaaDoor
