/-
  DERIVED. GIVEN WITH THE SEED: THE CARDS: each row of YtagebpmciimcgabDoorRows.lean that lists a variable, with what it lists TIED to the program's text (the seventh form; the later family's looks); each row that meets fmt, with fmt's text TOLD by the authors' own Lean function (tested against real Go, not proved from fmt's source: count such statements apart). THE CARD IS WHAT COUNTS. Prove the row's statement (the work); the ties are given (YtagebpmciimcgabDoorTie.lean); close each card by the builder's one call (the guide's Derived/Test/ToyasCard.lean, 'card_holds'). Laid BY PROGRAM, IN A SANDBOX (cutbox-door.mjs). By AI agents, Wed Nov 11 2026. No macro, syntax, notation, axiom, sorry.
-/
import Derived.Test.YtagebpmciimcgabDoorRows
import GoSem.ClaimSeven
namespace Go.Proofs.YtagebpmciimcgabDoor
namespace Rows

/-- THE TIED CARD OF 'laws.FnMorse'. -/
def fnMorseCard : Claim7 := { stood := { row := fnMorseRow, standIns := [], harness := (true, "b9293c05bc1eb2dfdd51d336adf8926de2c94ff11fd558fe741bbf22df4e895d"), looks := false }, kinds := [], alts := [], laidByText := true, laidKinds := [.data, .data, .pinned], laidTests := true, laidLooks := .later }
def FnMorseCardSaid : Prop := Claim7.holds Tryd.pinned (.plain (OpenSpec.ofChange fnMorseSpec)) fnMorseCard

/-- THE TIED CARD OF 'laws.FnNights'. -/
def fnNightsCard : Claim7 := { stood := { row := fnNightsRow, standIns := [], harness := (true, "b9293c05bc1eb2dfdd51d336adf8926de2c94ff11fd558fe741bbf22df4e895d"), looks := false }, kinds := [], alts := [], laidByText := true, laidKinds := [.data], laidTests := true, laidLooks := .later }
def FnNightsCardSaid : Prop := Claim7.holds Tryd.pinned (.plain (OpenSpec.ofChange fnNightsSpec)) fnNightsCard

/-- THE TIED CARD OF 'laws.FnExactSunrise'. -/
def fnExactSunriseCard : Claim7 := { stood := { row := fnExactSunriseRow, standIns := [], harness := (true, "b9293c05bc1eb2dfdd51d336adf8926de2c94ff11fd558fe741bbf22df4e895d"), looks := false }, kinds := [], alts := [], laidByText := true, laidKinds := [.data], laidTests := true, laidLooks := .later }
def FnExactSunriseCardSaid : Prop := Claim7.holds Tryd.pinned (.plain (OpenSpec.ofChange fnExactSunriseSpec)) fnExactSunriseCard

/-- THE TIED CARD OF 'laws.FnExactSunset'. -/
def fnExactSunsetCard : Claim7 := { stood := { row := fnExactSunsetRow, standIns := [], harness := (true, "b9293c05bc1eb2dfdd51d336adf8926de2c94ff11fd558fe741bbf22df4e895d"), looks := false }, kinds := [], alts := [], laidByText := true, laidKinds := [.data], laidTests := true, laidLooks := .later }
def FnExactSunsetCardSaid : Prop := Claim7.holds Tryd.pinned (.plain (OpenSpec.ofChange fnExactSunsetSpec)) fnExactSunsetCard

/-- THE TIED CARD OF 'laws.FnExactDarkMinutes'. -/
def fnExactDarkMinutesCard : Claim7 := { stood := { row := fnExactDarkMinutesRow, standIns := [], harness := (true, "b9293c05bc1eb2dfdd51d336adf8926de2c94ff11fd558fe741bbf22df4e895d"), looks := false }, kinds := [], alts := [], laidByText := true, laidKinds := [.data], laidTests := true, laidLooks := .later }
def FnExactDarkMinutesCardSaid : Prop := Claim7.holds Tryd.pinned (.plain (OpenSpec.ofChange fnExactDarkMinutesSpec)) fnExactDarkMinutesCard

/-- THE TIED CARD OF 'laws.FnExactLongestDark'. -/
def fnExactLongestDarkCard : Claim7 := { stood := { row := fnExactLongestDarkRow, standIns := [], harness := (true, "b9293c05bc1eb2dfdd51d336adf8926de2c94ff11fd558fe741bbf22df4e895d"), looks := false }, kinds := [], alts := [], laidByText := true, laidKinds := [.data], laidTests := true, laidLooks := .later }
def FnExactLongestDarkCardSaid : Prop := Claim7.holds Tryd.pinned (.plain (OpenSpec.ofChange fnExactLongestDarkSpec)) fnExactLongestDarkCard

/-- THE TIED CARD OF 'laws.FnExactDarkSum'. -/
def fnExactDarkSumCard : Claim7 := { stood := { row := fnExactDarkSumRow, standIns := [], harness := (true, "b9293c05bc1eb2dfdd51d336adf8926de2c94ff11fd558fe741bbf22df4e895d"), looks := false }, kinds := [], alts := [], laidByText := true, laidKinds := [.data], laidTests := true, laidLooks := .later }
def FnExactDarkSumCardSaid : Prop := Claim7.holds Tryd.pinned (.plain (OpenSpec.ofChange fnExactDarkSumSpec)) fnExactDarkSumCard

/-- THE SECOND FORM's CARD OF 'laws.FnMorse'. -/
def fnMorseUptoCard : Claim7 := { stood := { row := fnMorseUptoRow, standIns := [], harness := (true, "b9293c05bc1eb2dfdd51d336adf8926de2c94ff11fd558fe741bbf22df4e895d"), looks := false }, kinds := [], alts := [], laidByText := true, laidKinds := [.data, .data, .pinned], laidTests := true, laidLooks := .later }
def FnMorseUptoCardSaid : Prop := Claim7.holds Tryd.pinned (.plain (OpenSpec.upto fnMorseSpec)) fnMorseUptoCard

/-- THE SECOND FORM's CARD OF 'laws.FnNights'. -/
def fnNightsUptoCard : Claim7 := { stood := { row := fnNightsUptoRow, standIns := [], harness := (true, "b9293c05bc1eb2dfdd51d336adf8926de2c94ff11fd558fe741bbf22df4e895d"), looks := false }, kinds := [], alts := [], laidByText := true, laidKinds := [.data], laidTests := true, laidLooks := .later }
def FnNightsUptoCardSaid : Prop := Claim7.holds Tryd.pinned (.plain (OpenSpec.upto fnNightsSpec)) fnNightsUptoCard

/-- THE SECOND FORM's CARD OF 'laws.FnExactSunrise'. -/
def fnExactSunriseUptoCard : Claim7 := { stood := { row := fnExactSunriseUptoRow, standIns := [], harness := (true, "b9293c05bc1eb2dfdd51d336adf8926de2c94ff11fd558fe741bbf22df4e895d"), looks := false }, kinds := [], alts := [], laidByText := true, laidKinds := [.data], laidTests := true, laidLooks := .later }
def FnExactSunriseUptoCardSaid : Prop := Claim7.holds Tryd.pinned (.plain (OpenSpec.upto fnExactSunriseSpec)) fnExactSunriseUptoCard

/-- THE SECOND FORM's CARD OF 'laws.FnExactSunset'. -/
def fnExactSunsetUptoCard : Claim7 := { stood := { row := fnExactSunsetUptoRow, standIns := [], harness := (true, "b9293c05bc1eb2dfdd51d336adf8926de2c94ff11fd558fe741bbf22df4e895d"), looks := false }, kinds := [], alts := [], laidByText := true, laidKinds := [.data], laidTests := true, laidLooks := .later }
def FnExactSunsetUptoCardSaid : Prop := Claim7.holds Tryd.pinned (.plain (OpenSpec.upto fnExactSunsetSpec)) fnExactSunsetUptoCard

/-- THE SECOND FORM's CARD OF 'laws.FnExactDarkMinutes'. -/
def fnExactDarkMinutesUptoCard : Claim7 := { stood := { row := fnExactDarkMinutesUptoRow, standIns := [], harness := (true, "b9293c05bc1eb2dfdd51d336adf8926de2c94ff11fd558fe741bbf22df4e895d"), looks := false }, kinds := [], alts := [], laidByText := true, laidKinds := [.data], laidTests := true, laidLooks := .later }
def FnExactDarkMinutesUptoCardSaid : Prop := Claim7.holds Tryd.pinned (.plain (OpenSpec.upto fnExactDarkMinutesSpec)) fnExactDarkMinutesUptoCard

/-- THE SECOND FORM's CARD OF 'laws.FnExactLongestDark'. -/
def fnExactLongestDarkUptoCard : Claim7 := { stood := { row := fnExactLongestDarkUptoRow, standIns := [], harness := (true, "b9293c05bc1eb2dfdd51d336adf8926de2c94ff11fd558fe741bbf22df4e895d"), looks := false }, kinds := [], alts := [], laidByText := true, laidKinds := [.data], laidTests := true, laidLooks := .later }
def FnExactLongestDarkUptoCardSaid : Prop := Claim7.holds Tryd.pinned (.plain (OpenSpec.upto fnExactLongestDarkSpec)) fnExactLongestDarkUptoCard

/-- THE SECOND FORM's CARD OF 'laws.FnExactDarkSum'. -/
def fnExactDarkSumUptoCard : Claim7 := { stood := { row := fnExactDarkSumUptoRow, standIns := [], harness := (true, "b9293c05bc1eb2dfdd51d336adf8926de2c94ff11fd558fe741bbf22df4e895d"), looks := false }, kinds := [], alts := [], laidByText := true, laidKinds := [.data], laidTests := true, laidLooks := .later }
def FnExactDarkSumUptoCardSaid : Prop := Claim7.holds Tryd.pinned (.plain (OpenSpec.upto fnExactDarkSumSpec)) fnExactDarkSumUptoCard
end Rows
end Go.Proofs.YtagebpmciimcgabDoor
