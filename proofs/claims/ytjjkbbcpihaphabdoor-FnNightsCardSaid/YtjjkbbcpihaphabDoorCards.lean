/-
  DERIVED. GIVEN WITH THE SEED: THE CARDS: each row of YtjjkbbcpihaphabDoorRows.lean that lists a variable, with what it lists TIED to the program's text (the seventh form; the later family's looks); each row that meets fmt, with fmt's text TOLD by the authors' own Lean function (tested against real Go, not proved from fmt's source: count such statements apart). THE CARD IS WHAT COUNTS. Prove the row's statement (the work); the ties are given (YtjjkbbcpihaphabDoorTie.lean); close each card by the builder's one call (the guide's Derived/Test/ToyasCard.lean, 'card_holds'). Laid BY PROGRAM, IN A SANDBOX (cutbox-door.mjs). By AI agents, Wed Nov 11 2026. No macro, syntax, notation, axiom, sorry.
-/
import Derived.Test.YtjjkbbcpihaphabDoorRows
import GoSem.ClaimSeven
namespace Go.Proofs.YtjjkbbcpihaphabDoor
namespace Rows

/-- THE TIED CARD OF 'laws.FnNights'. -/
def fnNightsCard : Claim7 := { stood := { row := fnNightsRow, standIns := [], harness := (true, "5bb68ae01ebd91debe7b65072afa8dfa734bd6cecf5f924e7e1c7cc28408d728"), looks := false }, kinds := [], alts := [], laidByText := true, laidKinds := [.data], laidTests := true, laidLooks := .later }
def FnNightsCardSaid : Prop := Claim7.holds Tryd.pinned (.plain (OpenSpec.ofChange fnNightsSpec)) fnNightsCard

/-- THE TIED CARD OF 'laws.FnExactSineTenths'. -/
def fnExactSineTenthsCard : Claim7 := { stood := { row := fnExactSineTenthsRow, standIns := [], harness := (true, "5bb68ae01ebd91debe7b65072afa8dfa734bd6cecf5f924e7e1c7cc28408d728"), looks := false }, kinds := [], alts := [], laidByText := true, laidKinds := [.data], laidTests := true, laidLooks := .later }
def FnExactSineTenthsCardSaid : Prop := Claim7.holds Tryd.pinned (.plain (OpenSpec.ofChange fnExactSineTenthsSpec)) fnExactSineTenthsCard

/-- THE TIED CARD OF 'laws.FnExactDeclinationOf'. -/
def fnExactDeclinationOfCard : Claim7 := { stood := { row := fnExactDeclinationOfRow, standIns := [], harness := (true, "5bb68ae01ebd91debe7b65072afa8dfa734bd6cecf5f924e7e1c7cc28408d728"), looks := false }, kinds := [], alts := [], laidByText := true, laidKinds := [.data], laidTests := true, laidLooks := .later }
def FnExactDeclinationOfCardSaid : Prop := Claim7.holds Tryd.pinned (.plain (OpenSpec.ofChange fnExactDeclinationOfSpec)) fnExactDeclinationOfCard

/-- THE TIED CARD OF 'laws.FnExactSunSine'. -/
def fnExactSunSineCard : Claim7 := { stood := { row := fnExactSunSineRow, standIns := [], harness := (true, "5bb68ae01ebd91debe7b65072afa8dfa734bd6cecf5f924e7e1c7cc28408d728"), looks := false }, kinds := [], alts := [], laidByText := true, laidKinds := [.data], laidTests := true, laidLooks := .later }
def FnExactSunSineCardSaid : Prop := Claim7.holds Tryd.pinned (.plain (OpenSpec.ofChange fnExactSunSineSpec)) fnExactSunSineCard

/-- THE TIED CARD OF 'laws.FnExactLightKind'. -/
def fnExactLightKindCard : Claim7 := { stood := { row := fnExactLightKindRow, standIns := [], harness := (true, "5bb68ae01ebd91debe7b65072afa8dfa734bd6cecf5f924e7e1c7cc28408d728"), looks := false }, kinds := [], alts := [], laidByText := true, laidKinds := [.data], laidTests := true, laidLooks := .later }
def FnExactLightKindCardSaid : Prop := Claim7.holds Tryd.pinned (.plain (OpenSpec.ofChange fnExactLightKindSpec)) fnExactLightKindCard

/-- THE TIED CARD OF 'laws.FnExactSunrise'. -/
def fnExactSunriseCard : Claim7 := { stood := { row := fnExactSunriseRow, standIns := [], harness := (true, "5bb68ae01ebd91debe7b65072afa8dfa734bd6cecf5f924e7e1c7cc28408d728"), looks := false }, kinds := [], alts := [], laidByText := true, laidKinds := [.data], laidTests := true, laidLooks := .later }
def FnExactSunriseCardSaid : Prop := Claim7.holds Tryd.pinned (.plain (OpenSpec.ofChange fnExactSunriseSpec)) fnExactSunriseCard

/-- THE TIED CARD OF 'laws.FnExactSunset'. -/
def fnExactSunsetCard : Claim7 := { stood := { row := fnExactSunsetRow, standIns := [], harness := (true, "5bb68ae01ebd91debe7b65072afa8dfa734bd6cecf5f924e7e1c7cc28408d728"), looks := false }, kinds := [], alts := [], laidByText := true, laidKinds := [.data], laidTests := true, laidLooks := .later }
def FnExactSunsetCardSaid : Prop := Claim7.holds Tryd.pinned (.plain (OpenSpec.ofChange fnExactSunsetSpec)) fnExactSunsetCard

/-- THE TIED CARD OF 'laws.FnExactDarkMinutes'. -/
def fnExactDarkMinutesCard : Claim7 := { stood := { row := fnExactDarkMinutesRow, standIns := [], harness := (true, "5bb68ae01ebd91debe7b65072afa8dfa734bd6cecf5f924e7e1c7cc28408d728"), looks := false }, kinds := [], alts := [], laidByText := true, laidKinds := [.data], laidTests := true, laidLooks := .later }
def FnExactDarkMinutesCardSaid : Prop := Claim7.holds Tryd.pinned (.plain (OpenSpec.ofChange fnExactDarkMinutesSpec)) fnExactDarkMinutesCard

/-- THE TIED CARD OF 'laws.FnExactLongestDark'. -/
def fnExactLongestDarkCard : Claim7 := { stood := { row := fnExactLongestDarkRow, standIns := [], harness := (true, "5bb68ae01ebd91debe7b65072afa8dfa734bd6cecf5f924e7e1c7cc28408d728"), looks := false }, kinds := [], alts := [], laidByText := true, laidKinds := [.data], laidTests := true, laidLooks := .later }
def FnExactLongestDarkCardSaid : Prop := Claim7.holds Tryd.pinned (.plain (OpenSpec.ofChange fnExactLongestDarkSpec)) fnExactLongestDarkCard

/-- THE TIED CARD OF 'laws.FnExactDarkSum'. -/
def fnExactDarkSumCard : Claim7 := { stood := { row := fnExactDarkSumRow, standIns := [], harness := (true, "5bb68ae01ebd91debe7b65072afa8dfa734bd6cecf5f924e7e1c7cc28408d728"), looks := false }, kinds := [], alts := [], laidByText := true, laidKinds := [.data], laidTests := true, laidLooks := .later }
def FnExactDarkSumCardSaid : Prop := Claim7.holds Tryd.pinned (.plain (OpenSpec.ofChange fnExactDarkSumSpec)) fnExactDarkSumCard

/-- THE SECOND FORM's CARD OF 'laws.FnNights'. -/
def fnNightsUptoCard : Claim7 := { stood := { row := fnNightsUptoRow, standIns := [], harness := (true, "5bb68ae01ebd91debe7b65072afa8dfa734bd6cecf5f924e7e1c7cc28408d728"), looks := false }, kinds := [], alts := [], laidByText := true, laidKinds := [.data], laidTests := true, laidLooks := .later }
def FnNightsUptoCardSaid : Prop := Claim7.holds Tryd.pinned (.plain (OpenSpec.upto fnNightsSpec)) fnNightsUptoCard

/-- THE SECOND FORM's CARD OF 'laws.FnExactSineTenths'. -/
def fnExactSineTenthsUptoCard : Claim7 := { stood := { row := fnExactSineTenthsUptoRow, standIns := [], harness := (true, "5bb68ae01ebd91debe7b65072afa8dfa734bd6cecf5f924e7e1c7cc28408d728"), looks := false }, kinds := [], alts := [], laidByText := true, laidKinds := [.data], laidTests := true, laidLooks := .later }
def FnExactSineTenthsUptoCardSaid : Prop := Claim7.holds Tryd.pinned (.plain (OpenSpec.upto fnExactSineTenthsSpec)) fnExactSineTenthsUptoCard

/-- THE SECOND FORM's CARD OF 'laws.FnExactDeclinationOf'. -/
def fnExactDeclinationOfUptoCard : Claim7 := { stood := { row := fnExactDeclinationOfUptoRow, standIns := [], harness := (true, "5bb68ae01ebd91debe7b65072afa8dfa734bd6cecf5f924e7e1c7cc28408d728"), looks := false }, kinds := [], alts := [], laidByText := true, laidKinds := [.data], laidTests := true, laidLooks := .later }
def FnExactDeclinationOfUptoCardSaid : Prop := Claim7.holds Tryd.pinned (.plain (OpenSpec.upto fnExactDeclinationOfSpec)) fnExactDeclinationOfUptoCard

/-- THE SECOND FORM's CARD OF 'laws.FnExactSunSine'. -/
def fnExactSunSineUptoCard : Claim7 := { stood := { row := fnExactSunSineUptoRow, standIns := [], harness := (true, "5bb68ae01ebd91debe7b65072afa8dfa734bd6cecf5f924e7e1c7cc28408d728"), looks := false }, kinds := [], alts := [], laidByText := true, laidKinds := [.data], laidTests := true, laidLooks := .later }
def FnExactSunSineUptoCardSaid : Prop := Claim7.holds Tryd.pinned (.plain (OpenSpec.upto fnExactSunSineSpec)) fnExactSunSineUptoCard

/-- THE SECOND FORM's CARD OF 'laws.FnExactLightKind'. -/
def fnExactLightKindUptoCard : Claim7 := { stood := { row := fnExactLightKindUptoRow, standIns := [], harness := (true, "5bb68ae01ebd91debe7b65072afa8dfa734bd6cecf5f924e7e1c7cc28408d728"), looks := false }, kinds := [], alts := [], laidByText := true, laidKinds := [.data], laidTests := true, laidLooks := .later }
def FnExactLightKindUptoCardSaid : Prop := Claim7.holds Tryd.pinned (.plain (OpenSpec.upto fnExactLightKindSpec)) fnExactLightKindUptoCard

/-- THE SECOND FORM's CARD OF 'laws.FnExactSunrise'. -/
def fnExactSunriseUptoCard : Claim7 := { stood := { row := fnExactSunriseUptoRow, standIns := [], harness := (true, "5bb68ae01ebd91debe7b65072afa8dfa734bd6cecf5f924e7e1c7cc28408d728"), looks := false }, kinds := [], alts := [], laidByText := true, laidKinds := [.data], laidTests := true, laidLooks := .later }
def FnExactSunriseUptoCardSaid : Prop := Claim7.holds Tryd.pinned (.plain (OpenSpec.upto fnExactSunriseSpec)) fnExactSunriseUptoCard

/-- THE SECOND FORM's CARD OF 'laws.FnExactSunset'. -/
def fnExactSunsetUptoCard : Claim7 := { stood := { row := fnExactSunsetUptoRow, standIns := [], harness := (true, "5bb68ae01ebd91debe7b65072afa8dfa734bd6cecf5f924e7e1c7cc28408d728"), looks := false }, kinds := [], alts := [], laidByText := true, laidKinds := [.data], laidTests := true, laidLooks := .later }
def FnExactSunsetUptoCardSaid : Prop := Claim7.holds Tryd.pinned (.plain (OpenSpec.upto fnExactSunsetSpec)) fnExactSunsetUptoCard

/-- THE SECOND FORM's CARD OF 'laws.FnExactDarkMinutes'. -/
def fnExactDarkMinutesUptoCard : Claim7 := { stood := { row := fnExactDarkMinutesUptoRow, standIns := [], harness := (true, "5bb68ae01ebd91debe7b65072afa8dfa734bd6cecf5f924e7e1c7cc28408d728"), looks := false }, kinds := [], alts := [], laidByText := true, laidKinds := [.data], laidTests := true, laidLooks := .later }
def FnExactDarkMinutesUptoCardSaid : Prop := Claim7.holds Tryd.pinned (.plain (OpenSpec.upto fnExactDarkMinutesSpec)) fnExactDarkMinutesUptoCard

/-- THE SECOND FORM's CARD OF 'laws.FnExactLongestDark'. -/
def fnExactLongestDarkUptoCard : Claim7 := { stood := { row := fnExactLongestDarkUptoRow, standIns := [], harness := (true, "5bb68ae01ebd91debe7b65072afa8dfa734bd6cecf5f924e7e1c7cc28408d728"), looks := false }, kinds := [], alts := [], laidByText := true, laidKinds := [.data], laidTests := true, laidLooks := .later }
def FnExactLongestDarkUptoCardSaid : Prop := Claim7.holds Tryd.pinned (.plain (OpenSpec.upto fnExactLongestDarkSpec)) fnExactLongestDarkUptoCard

/-- THE SECOND FORM's CARD OF 'laws.FnExactDarkSum'. -/
def fnExactDarkSumUptoCard : Claim7 := { stood := { row := fnExactDarkSumUptoRow, standIns := [], harness := (true, "5bb68ae01ebd91debe7b65072afa8dfa734bd6cecf5f924e7e1c7cc28408d728"), looks := false }, kinds := [], alts := [], laidByText := true, laidKinds := [.data], laidTests := true, laidLooks := .later }
def FnExactDarkSumUptoCardSaid : Prop := Claim7.holds Tryd.pinned (.plain (OpenSpec.upto fnExactDarkSumSpec)) fnExactDarkSumUptoCard
end Rows
end Go.Proofs.YtjjkbbcpihaphabDoor
