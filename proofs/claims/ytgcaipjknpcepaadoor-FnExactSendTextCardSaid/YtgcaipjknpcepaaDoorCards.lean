/-
  DERIVED. GIVEN WITH THE SEED: THE CARDS: each row of YtgcaipjknpcepaaDoorRows.lean that lists a variable, with what it lists TIED to the program's text (the seventh form; the later family's looks); each row that meets fmt, with fmt's text TOLD by the authors' own Lean function (tested against real Go, not proved from fmt's source: count such statements apart). THE CARD IS WHAT COUNTS. Prove the row's statement (the work); the ties are given (YtgcaipjknpcepaaDoorTie.lean); close each card by the builder's one call (the guide's Derived/Test/ToyasCard.lean, 'card_holds'). Laid BY PROGRAM, IN A SANDBOX (cutbox-door.mjs). By AI agents, Wed Nov 11 2026. No macro, syntax, notation, axiom, sorry.
-/
import Derived.Test.YtgcaipjknpcepaaDoorRows
import GoSem.ClaimSeven
namespace Go.Proofs.YtgcaipjknpcepaaDoor
namespace Rows

/-- THE TIED CARD OF 'laws.FnExactMorseOf'. -/
def fnExactMorseOfCard : Claim7 := { stood := { row := fnExactMorseOfRow, standIns := [], harness := (true, "1278dcc505992712bbec3c49251f8903b296f659fbf1987532354876055b81a4"), looks := true }, kinds := [], alts := [], laidByText := true, laidKinds := [.data], laidTests := true, laidLooks := .later }
def FnExactMorseOfCardSaid : Prop := Claim7.holds Tryd.pinned (.plain (OpenSpec.ofChange fnExactMorseOfSpec)) fnExactMorseOfCard

/-- THE TIED CARD OF 'laws.FnExactLetterOf'. -/
def fnExactLetterOfCard : Claim7 := { stood := { row := fnExactLetterOfRow, standIns := [], harness := (true, "1278dcc505992712bbec3c49251f8903b296f659fbf1987532354876055b81a4"), looks := true }, kinds := [], alts := [], laidByText := true, laidKinds := [.data], laidTests := true, laidLooks := .later }
def FnExactLetterOfCardSaid : Prop := Claim7.holds Tryd.pinned (.plain (OpenSpec.ofChange fnExactLetterOfSpec)) fnExactLetterOfCard

/-- THE TIED CARD OF 'laws.FnExactMorseLength'. -/
def fnExactMorseLengthCard : Claim7 := { stood := { row := fnExactMorseLengthRow, standIns := [], harness := (true, "1278dcc505992712bbec3c49251f8903b296f659fbf1987532354876055b81a4"), looks := true }, kinds := [], alts := [], laidByText := true, laidKinds := [.data], laidTests := true, laidLooks := .later }
def FnExactMorseLengthCardSaid : Prop := Claim7.holds Tryd.pinned (.plain (OpenSpec.ofChange fnExactMorseLengthSpec)) fnExactMorseLengthCard

/-- THE TIED CARD OF 'laws.FnExactLettersLike'. -/
def fnExactLettersLikeCard : Claim7 := { stood := { row := fnExactLettersLikeRow, standIns := [], harness := (true, "1278dcc505992712bbec3c49251f8903b296f659fbf1987532354876055b81a4"), looks := true }, kinds := [], alts := [], laidByText := true, laidKinds := [.data, .data, .pinned], laidTests := true, laidLooks := .later }
def FnExactLettersLikeCardSaid : Prop := Claim7.holds Tryd.pinned (.plain (OpenSpec.ofChange fnExactLettersLikeSpec)) fnExactLettersLikeCard

/-- THE TIED CARD OF 'laws.FnExactSendText'. -/
def fnExactSendTextCard : Claim7 := { stood := { row := fnExactSendTextRow, standIns := [], harness := (true, "1278dcc505992712bbec3c49251f8903b296f659fbf1987532354876055b81a4"), looks := true }, kinds := [], alts := [], laidByText := true, laidKinds := [.data, .data, .pinned], laidTests := true, laidLooks := .later }
def FnExactSendTextCardSaid : Prop := Claim7.holds Tryd.pinned (.plain (OpenSpec.ofChange fnExactSendTextSpec)) fnExactSendTextCard

/-- THE TIED CARD OF 'laws.FnExactReadSignal'. -/
def fnExactReadSignalCard : Claim7 := { stood := { row := fnExactReadSignalRow, standIns := [], harness := (true, "1278dcc505992712bbec3c49251f8903b296f659fbf1987532354876055b81a4"), looks := true }, kinds := [], alts := [], laidByText := true, laidKinds := [.data, .data, .pinned], laidTests := true, laidLooks := .later }
def FnExactReadSignalCardSaid : Prop := Claim7.holds Tryd.pinned (.plain (OpenSpec.ofChange fnExactReadSignalSpec)) fnExactReadSignalCard

/-- THE TIED CARD OF 'laws.FnExactSpellText'. -/
def fnExactSpellTextCard : Claim7 := { stood := { row := fnExactSpellTextRow, standIns := [], harness := (true, "1278dcc505992712bbec3c49251f8903b296f659fbf1987532354876055b81a4"), looks := true }, kinds := [], alts := [], laidByText := true, laidKinds := [.data, .data, .pinned], laidTests := true, laidLooks := .later }
def FnExactSpellTextCardSaid : Prop := Claim7.holds Tryd.pinned (.plain (OpenSpec.ofChange fnExactSpellTextSpec)) fnExactSpellTextCard

/-- THE TIED CARD OF 'laws.FnMorse'. -/
def fnMorseCard : Claim7 := { stood := { row := fnMorseRow, standIns := [], harness := (true, "1278dcc505992712bbec3c49251f8903b296f659fbf1987532354876055b81a4"), looks := true }, kinds := [], alts := [], laidByText := true, laidKinds := [.data, .data, .pinned], laidTests := true, laidLooks := .later }
def FnMorseCardSaid : Prop := Claim7.holds Tryd.pinned (.plain (OpenSpec.ofChange fnMorseSpec)) fnMorseCard

/-- THE TIED CARD OF 'laws.FnExactPhasesText'. -/
def fnExactPhasesTextCard : Claim7 := { stood := { row := fnExactPhasesTextRow, standIns := [], harness := (true, "1278dcc505992712bbec3c49251f8903b296f659fbf1987532354876055b81a4"), looks := true }, kinds := [], alts := [], laidByText := true, laidKinds := [.data, .data, .data], laidTests := true, laidLooks := .later }
def FnExactPhasesTextCardSaid : Prop := Claim7.holds Tryd.pinned (.plain (OpenSpec.ofChange fnExactPhasesTextSpec)) fnExactPhasesTextCard

/-- THE TIED CARD OF 'laws.FnExactReadPhases'. -/
def fnExactReadPhasesCard : Claim7 := { stood := { row := fnExactReadPhasesRow, standIns := [], harness := (true, "1278dcc505992712bbec3c49251f8903b296f659fbf1987532354876055b81a4"), looks := true }, kinds := [], alts := [], laidByText := true, laidKinds := [.data, .data, .data, .data, .sentinel, .sentinel, .pinned], laidTests := true, laidLooks := .later }
def FnExactReadPhasesCardSaid : Prop := Claim7.holds Tryd.pinned (.plain (OpenSpec.ofChange fnExactReadPhasesSpec)) fnExactReadPhasesCard

/-- THE SECOND FORM's CARD OF 'laws.FnExactMorseOf'. -/
def fnExactMorseOfUptoCard : Claim7 := { stood := { row := fnExactMorseOfUptoRow, standIns := [], harness := (true, "1278dcc505992712bbec3c49251f8903b296f659fbf1987532354876055b81a4"), looks := true }, kinds := [], alts := [], laidByText := true, laidKinds := [.data], laidTests := true, laidLooks := .later }
def FnExactMorseOfUptoCardSaid : Prop := Claim7.holds Tryd.pinned (.plain (OpenSpec.upto fnExactMorseOfSpec)) fnExactMorseOfUptoCard

/-- THE SECOND FORM's CARD OF 'laws.FnExactLetterOf'. -/
def fnExactLetterOfUptoCard : Claim7 := { stood := { row := fnExactLetterOfUptoRow, standIns := [], harness := (true, "1278dcc505992712bbec3c49251f8903b296f659fbf1987532354876055b81a4"), looks := true }, kinds := [], alts := [], laidByText := true, laidKinds := [.data], laidTests := true, laidLooks := .later }
def FnExactLetterOfUptoCardSaid : Prop := Claim7.holds Tryd.pinned (.plain (OpenSpec.upto fnExactLetterOfSpec)) fnExactLetterOfUptoCard

/-- THE SECOND FORM's CARD OF 'laws.FnExactMorseLength'. -/
def fnExactMorseLengthUptoCard : Claim7 := { stood := { row := fnExactMorseLengthUptoRow, standIns := [], harness := (true, "1278dcc505992712bbec3c49251f8903b296f659fbf1987532354876055b81a4"), looks := true }, kinds := [], alts := [], laidByText := true, laidKinds := [.data], laidTests := true, laidLooks := .later }
def FnExactMorseLengthUptoCardSaid : Prop := Claim7.holds Tryd.pinned (.plain (OpenSpec.upto fnExactMorseLengthSpec)) fnExactMorseLengthUptoCard

/-- THE SECOND FORM's CARD OF 'laws.FnExactLettersLike'. -/
def fnExactLettersLikeUptoCard : Claim7 := { stood := { row := fnExactLettersLikeUptoRow, standIns := [], harness := (true, "1278dcc505992712bbec3c49251f8903b296f659fbf1987532354876055b81a4"), looks := true }, kinds := [], alts := [], laidByText := true, laidKinds := [.data, .data, .pinned], laidTests := true, laidLooks := .later }
def FnExactLettersLikeUptoCardSaid : Prop := Claim7.holds Tryd.pinned (.plain (OpenSpec.upto fnExactLettersLikeSpec)) fnExactLettersLikeUptoCard

/-- THE SECOND FORM's CARD OF 'laws.FnExactSendText'. -/
def fnExactSendTextUptoCard : Claim7 := { stood := { row := fnExactSendTextUptoRow, standIns := [], harness := (true, "1278dcc505992712bbec3c49251f8903b296f659fbf1987532354876055b81a4"), looks := true }, kinds := [], alts := [], laidByText := true, laidKinds := [.data, .data, .pinned], laidTests := true, laidLooks := .later }
def FnExactSendTextUptoCardSaid : Prop := Claim7.holds Tryd.pinned (.plain (OpenSpec.upto fnExactSendTextSpec)) fnExactSendTextUptoCard

/-- THE SECOND FORM's CARD OF 'laws.FnExactReadSignal'. -/
def fnExactReadSignalUptoCard : Claim7 := { stood := { row := fnExactReadSignalUptoRow, standIns := [], harness := (true, "1278dcc505992712bbec3c49251f8903b296f659fbf1987532354876055b81a4"), looks := true }, kinds := [], alts := [], laidByText := true, laidKinds := [.data, .data, .pinned], laidTests := true, laidLooks := .later }
def FnExactReadSignalUptoCardSaid : Prop := Claim7.holds Tryd.pinned (.plain (OpenSpec.upto fnExactReadSignalSpec)) fnExactReadSignalUptoCard

/-- THE SECOND FORM's CARD OF 'laws.FnExactSpellText'. -/
def fnExactSpellTextUptoCard : Claim7 := { stood := { row := fnExactSpellTextUptoRow, standIns := [], harness := (true, "1278dcc505992712bbec3c49251f8903b296f659fbf1987532354876055b81a4"), looks := true }, kinds := [], alts := [], laidByText := true, laidKinds := [.data, .data, .pinned], laidTests := true, laidLooks := .later }
def FnExactSpellTextUptoCardSaid : Prop := Claim7.holds Tryd.pinned (.plain (OpenSpec.upto fnExactSpellTextSpec)) fnExactSpellTextUptoCard

/-- THE SECOND FORM's CARD OF 'laws.FnMorse'. -/
def fnMorseUptoCard : Claim7 := { stood := { row := fnMorseUptoRow, standIns := [], harness := (true, "1278dcc505992712bbec3c49251f8903b296f659fbf1987532354876055b81a4"), looks := true }, kinds := [], alts := [], laidByText := true, laidKinds := [.data, .data, .pinned], laidTests := true, laidLooks := .later }
def FnMorseUptoCardSaid : Prop := Claim7.holds Tryd.pinned (.plain (OpenSpec.upto fnMorseSpec)) fnMorseUptoCard

/-- THE SECOND FORM's CARD OF 'laws.FnExactPhasesText'. -/
def fnExactPhasesTextUptoCard : Claim7 := { stood := { row := fnExactPhasesTextUptoRow, standIns := [], harness := (true, "1278dcc505992712bbec3c49251f8903b296f659fbf1987532354876055b81a4"), looks := true }, kinds := [], alts := [], laidByText := true, laidKinds := [.data, .data, .data], laidTests := true, laidLooks := .later }
def FnExactPhasesTextUptoCardSaid : Prop := Claim7.holds Tryd.pinned (.plain (OpenSpec.upto fnExactPhasesTextSpec)) fnExactPhasesTextUptoCard

/-- THE SECOND FORM's CARD OF 'laws.FnExactReadPhases'. -/
def fnExactReadPhasesUptoCard : Claim7 := { stood := { row := fnExactReadPhasesUptoRow, standIns := [], harness := (true, "1278dcc505992712bbec3c49251f8903b296f659fbf1987532354876055b81a4"), looks := true }, kinds := [], alts := [], laidByText := true, laidKinds := [.data, .data, .data, .data, .sentinel, .sentinel, .pinned], laidTests := true, laidLooks := .later }
def FnExactReadPhasesUptoCardSaid : Prop := Claim7.holds Tryd.pinned (.plain (OpenSpec.upto fnExactReadPhasesSpec)) fnExactReadPhasesUptoCard
end Rows
end Go.Proofs.YtgcaipjknpcepaaDoor
