/-
  DERIVED. GIVEN WITH THE SEED: THE CARDS: each row of YtbfhnfoaipaljaaDoorRows.lean that lists a variable, with what it lists TIED to the program's text (the seventh form; the later family's looks); each row that meets fmt, with fmt's text TOLD by the authors' own Lean function (tested against real Go, not proved from fmt's source: count such statements apart). THE CARD IS WHAT COUNTS. Prove the row's statement (the work); the ties are given (YtbfhnfoaipaljaaDoorTie.lean); close each card by the builder's one call (the guide's Derived/Test/ToyasCard.lean, 'card_holds'). Laid BY PROGRAM, IN A SANDBOX (cutbox-door.mjs). By AI agents, Wed Nov 11 2026. No macro, syntax, notation, axiom, sorry.
-/
import Derived.Test.YtbfhnfoaipaljaaDoorRows
import GoSem.ClaimSeven
namespace Go.Proofs.YtbfhnfoaipaljaaDoor
namespace Rows

/-- THE TIED CARD OF 'laws.FnExactFogName'. -/
def fnExactFogNameCard : Claim7 := { stood := { row := fnExactFogNameRow, standIns := [], harness := (true, "53cf24a0b2dc803689d43e05f1cd3aa1273f3c29075edcbd8b186c5ff29051b9"), looks := true }, kinds := [], alts := [], laidByText := true, laidKinds := [.data], laidTests := true, laidLooks := .later }
def FnExactFogNameCardSaid : Prop := Claim7.holds Tryd.pinned (.plain (OpenSpec.ofChange fnExactFogNameSpec)) fnExactFogNameCard

/-- THE TIED CARD OF 'laws.FnExactValidFog'. -/
def fnExactValidFogCard : Claim7 := { stood := { row := fnExactValidFogRow, standIns := [], harness := (true, "53cf24a0b2dc803689d43e05f1cd3aa1273f3c29075edcbd8b186c5ff29051b9"), looks := true }, kinds := [], alts := [], laidByText := true, laidKinds := [.sentinel, .sentinel, .sentinel, .data], laidTests := true, laidLooks := .later }
def FnExactValidFogCardSaid : Prop := Claim7.holds Tryd.pinned (.plain (OpenSpec.ofChange fnExactValidFogSpec)) fnExactValidFogCard

/-- THE TIED CARD OF 'laws.FnExactBlastLength'. -/
def fnExactBlastLengthCard : Claim7 := { stood := { row := fnExactBlastLengthRow, standIns := [], harness := (true, "53cf24a0b2dc803689d43e05f1cd3aa1273f3c29075edcbd8b186c5ff29051b9"), looks := true }, kinds := [], alts := [], laidByText := true, laidKinds := [.data], laidTests := true, laidLooks := .later }
def FnExactBlastLengthCardSaid : Prop := Claim7.holds Tryd.pinned (.plain (OpenSpec.ofChange fnExactBlastLengthSpec)) fnExactBlastLengthCard

/-- THE TIED CARD OF 'laws.FnExactLeastFogPeriod'. -/
def fnExactLeastFogPeriodCard : Claim7 := { stood := { row := fnExactLeastFogPeriodRow, standIns := [], harness := (true, "53cf24a0b2dc803689d43e05f1cd3aa1273f3c29075edcbd8b186c5ff29051b9"), looks := true }, kinds := [], alts := [], laidByText := true, laidKinds := [.sentinel, .sentinel, .sentinel, .data], laidTests := true, laidLooks := .later }
def FnExactLeastFogPeriodCardSaid : Prop := Claim7.holds Tryd.pinned (.plain (OpenSpec.ofChange fnExactLeastFogPeriodSpec)) fnExactLeastFogPeriodCard

/-- THE TIED CARD OF 'laws.FnExactBlastsOf'. -/
def fnExactBlastsOfCard : Claim7 := { stood := { row := fnExactBlastsOfRow, standIns := [], harness := (true, "53cf24a0b2dc803689d43e05f1cd3aa1273f3c29075edcbd8b186c5ff29051b9"), looks := true }, kinds := [], alts := [], laidByText := true, laidKinds := [.sentinel, .sentinel, .sentinel, .data], laidTests := true, laidLooks := .later }
def FnExactBlastsOfCardSaid : Prop := Claim7.holds Tryd.pinned (.plain (OpenSpec.ofChange fnExactBlastsOfSpec)) fnExactBlastsOfCard

/-- THE TIED CARD OF 'laws.FnExactSoundAt'. -/
def fnExactSoundAtCard : Claim7 := { stood := { row := fnExactSoundAtRow, standIns := [], harness := (true, "53cf24a0b2dc803689d43e05f1cd3aa1273f3c29075edcbd8b186c5ff29051b9"), looks := true }, kinds := [], alts := [], laidByText := true, laidKinds := [.sentinel, .sentinel, .sentinel, .data], laidTests := true, laidLooks := .later }
def FnExactSoundAtCardSaid : Prop := Claim7.holds Tryd.pinned (.plain (OpenSpec.ofChange fnExactSoundAtSpec)) fnExactSoundAtCard

/-- THE TIED CARD OF 'laws.FnExactNextBlast'. -/
def fnExactNextBlastCard : Claim7 := { stood := { row := fnExactNextBlastRow, standIns := [], harness := (true, "53cf24a0b2dc803689d43e05f1cd3aa1273f3c29075edcbd8b186c5ff29051b9"), looks := true }, kinds := [], alts := [], laidByText := true, laidKinds := [.sentinel, .sentinel, .sentinel, .data], laidTests := true, laidLooks := .later }
def FnExactNextBlastCardSaid : Prop := Claim7.holds Tryd.pinned (.plain (OpenSpec.ofChange fnExactNextBlastSpec)) fnExactNextBlastCard

/-- THE TIED CARD OF 'laws.FnExactSoundRange'. -/
def fnExactSoundRangeCard : Claim7 := { stood := { row := fnExactSoundRangeRow, standIns := [], harness := (true, "53cf24a0b2dc803689d43e05f1cd3aa1273f3c29075edcbd8b186c5ff29051b9"), looks := true }, kinds := [], alts := [], laidByText := true, laidKinds := [.data], laidTests := true, laidLooks := .later }
def FnExactSoundRangeCardSaid : Prop := Claim7.holds Tryd.pinned (.plain (OpenSpec.ofChange fnExactSoundRangeSpec)) fnExactSoundRangeCard

/-- THE TIED CARD OF 'laws.FnExactHeardFrom'. -/
def fnExactHeardFromCard : Claim7 := { stood := { row := fnExactHeardFromRow, standIns := [], harness := (true, "53cf24a0b2dc803689d43e05f1cd3aa1273f3c29075edcbd8b186c5ff29051b9"), looks := true }, kinds := [], alts := [], laidByText := true, laidKinds := [.sentinel, .sentinel, .sentinel, .data, .data], laidTests := true, laidLooks := .later }
def FnExactHeardFromCardSaid : Prop := Claim7.holds Tryd.pinned (.plain (OpenSpec.ofChange fnExactHeardFromSpec)) fnExactHeardFromCard

/-- THE TIED CARD OF 'laws.FnExactPowerFor'. -/
def fnExactPowerForCard : Claim7 := { stood := { row := fnExactPowerForRow, standIns := [], harness := (true, "53cf24a0b2dc803689d43e05f1cd3aa1273f3c29075edcbd8b186c5ff29051b9"), looks := true }, kinds := [], alts := [], laidByText := true, laidKinds := [.data], laidTests := true, laidLooks := .later }
def FnExactPowerForCardSaid : Prop := Claim7.holds Tryd.pinned (.plain (OpenSpec.ofChange fnExactPowerForSpec)) fnExactPowerForCard

/-- THE TIED CARD OF 'laws.FnExactFogText'. -/
def fnExactFogTextCard : Claim7 := { stood := { row := fnExactFogTextRow, standIns := [], harness := (true, "53cf24a0b2dc803689d43e05f1cd3aa1273f3c29075edcbd8b186c5ff29051b9"), looks := true }, kinds := [], alts := [], laidByText := true, laidKinds := [.data, .data, .data, .sentinel, .sentinel, .sentinel, .data], laidTests := true, laidLooks := .later }
def FnExactFogTextCardSaid : Prop := Claim7.holds Tryd.pinned (.plain (OpenSpec.ofChange fnExactFogTextSpec)) fnExactFogTextCard

/-- THE TIED CARD OF 'laws.FnExactReadFog'. -/
def fnExactReadFogCard : Claim7 := { stood := { row := fnExactReadFogRow, standIns := [], harness := (true, "53cf24a0b2dc803689d43e05f1cd3aa1273f3c29075edcbd8b186c5ff29051b9"), looks := true }, kinds := [], alts := [], laidByText := true, laidKinds := [.data, .data, .data, .data, .sentinel, .sentinel, .sentinel, .sentinel, .sentinel, .data, .pinned], laidTests := true, laidLooks := .later }
def FnExactReadFogCardSaid : Prop := Claim7.holds Tryd.pinned (.plain (OpenSpec.ofChange fnExactReadFogSpec)) fnExactReadFogCard

/-- THE SECOND FORM's CARD OF 'laws.FnExactFogName'. -/
def fnExactFogNameUptoCard : Claim7 := { stood := { row := fnExactFogNameUptoRow, standIns := [], harness := (true, "53cf24a0b2dc803689d43e05f1cd3aa1273f3c29075edcbd8b186c5ff29051b9"), looks := true }, kinds := [], alts := [], laidByText := true, laidKinds := [.data], laidTests := true, laidLooks := .later }
def FnExactFogNameUptoCardSaid : Prop := Claim7.holds Tryd.pinned (.plain (OpenSpec.upto fnExactFogNameSpec)) fnExactFogNameUptoCard

/-- THE SECOND FORM's CARD OF 'laws.FnExactValidFog'. -/
def fnExactValidFogUptoCard : Claim7 := { stood := { row := fnExactValidFogUptoRow, standIns := [], harness := (true, "53cf24a0b2dc803689d43e05f1cd3aa1273f3c29075edcbd8b186c5ff29051b9"), looks := true }, kinds := [], alts := [], laidByText := true, laidKinds := [.sentinel, .sentinel, .sentinel, .data], laidTests := true, laidLooks := .later }
def FnExactValidFogUptoCardSaid : Prop := Claim7.holds Tryd.pinned (.plain (OpenSpec.upto fnExactValidFogSpec)) fnExactValidFogUptoCard

/-- THE SECOND FORM's CARD OF 'laws.FnExactBlastLength'. -/
def fnExactBlastLengthUptoCard : Claim7 := { stood := { row := fnExactBlastLengthUptoRow, standIns := [], harness := (true, "53cf24a0b2dc803689d43e05f1cd3aa1273f3c29075edcbd8b186c5ff29051b9"), looks := true }, kinds := [], alts := [], laidByText := true, laidKinds := [.data], laidTests := true, laidLooks := .later }
def FnExactBlastLengthUptoCardSaid : Prop := Claim7.holds Tryd.pinned (.plain (OpenSpec.upto fnExactBlastLengthSpec)) fnExactBlastLengthUptoCard

/-- THE SECOND FORM's CARD OF 'laws.FnExactLeastFogPeriod'. -/
def fnExactLeastFogPeriodUptoCard : Claim7 := { stood := { row := fnExactLeastFogPeriodUptoRow, standIns := [], harness := (true, "53cf24a0b2dc803689d43e05f1cd3aa1273f3c29075edcbd8b186c5ff29051b9"), looks := true }, kinds := [], alts := [], laidByText := true, laidKinds := [.sentinel, .sentinel, .sentinel, .data], laidTests := true, laidLooks := .later }
def FnExactLeastFogPeriodUptoCardSaid : Prop := Claim7.holds Tryd.pinned (.plain (OpenSpec.upto fnExactLeastFogPeriodSpec)) fnExactLeastFogPeriodUptoCard

/-- THE SECOND FORM's CARD OF 'laws.FnExactBlastsOf'. -/
def fnExactBlastsOfUptoCard : Claim7 := { stood := { row := fnExactBlastsOfUptoRow, standIns := [], harness := (true, "53cf24a0b2dc803689d43e05f1cd3aa1273f3c29075edcbd8b186c5ff29051b9"), looks := true }, kinds := [], alts := [], laidByText := true, laidKinds := [.sentinel, .sentinel, .sentinel, .data], laidTests := true, laidLooks := .later }
def FnExactBlastsOfUptoCardSaid : Prop := Claim7.holds Tryd.pinned (.plain (OpenSpec.upto fnExactBlastsOfSpec)) fnExactBlastsOfUptoCard

/-- THE SECOND FORM's CARD OF 'laws.FnExactSoundAt'. -/
def fnExactSoundAtUptoCard : Claim7 := { stood := { row := fnExactSoundAtUptoRow, standIns := [], harness := (true, "53cf24a0b2dc803689d43e05f1cd3aa1273f3c29075edcbd8b186c5ff29051b9"), looks := true }, kinds := [], alts := [], laidByText := true, laidKinds := [.sentinel, .sentinel, .sentinel, .data], laidTests := true, laidLooks := .later }
def FnExactSoundAtUptoCardSaid : Prop := Claim7.holds Tryd.pinned (.plain (OpenSpec.upto fnExactSoundAtSpec)) fnExactSoundAtUptoCard

/-- THE SECOND FORM's CARD OF 'laws.FnExactNextBlast'. -/
def fnExactNextBlastUptoCard : Claim7 := { stood := { row := fnExactNextBlastUptoRow, standIns := [], harness := (true, "53cf24a0b2dc803689d43e05f1cd3aa1273f3c29075edcbd8b186c5ff29051b9"), looks := true }, kinds := [], alts := [], laidByText := true, laidKinds := [.sentinel, .sentinel, .sentinel, .data], laidTests := true, laidLooks := .later }
def FnExactNextBlastUptoCardSaid : Prop := Claim7.holds Tryd.pinned (.plain (OpenSpec.upto fnExactNextBlastSpec)) fnExactNextBlastUptoCard

/-- THE SECOND FORM's CARD OF 'laws.FnExactSoundRange'. -/
def fnExactSoundRangeUptoCard : Claim7 := { stood := { row := fnExactSoundRangeUptoRow, standIns := [], harness := (true, "53cf24a0b2dc803689d43e05f1cd3aa1273f3c29075edcbd8b186c5ff29051b9"), looks := true }, kinds := [], alts := [], laidByText := true, laidKinds := [.data], laidTests := true, laidLooks := .later }
def FnExactSoundRangeUptoCardSaid : Prop := Claim7.holds Tryd.pinned (.plain (OpenSpec.upto fnExactSoundRangeSpec)) fnExactSoundRangeUptoCard

/-- THE SECOND FORM's CARD OF 'laws.FnExactHeardFrom'. -/
def fnExactHeardFromUptoCard : Claim7 := { stood := { row := fnExactHeardFromUptoRow, standIns := [], harness := (true, "53cf24a0b2dc803689d43e05f1cd3aa1273f3c29075edcbd8b186c5ff29051b9"), looks := true }, kinds := [], alts := [], laidByText := true, laidKinds := [.sentinel, .sentinel, .sentinel, .data, .data], laidTests := true, laidLooks := .later }
def FnExactHeardFromUptoCardSaid : Prop := Claim7.holds Tryd.pinned (.plain (OpenSpec.upto fnExactHeardFromSpec)) fnExactHeardFromUptoCard

/-- THE SECOND FORM's CARD OF 'laws.FnExactPowerFor'. -/
def fnExactPowerForUptoCard : Claim7 := { stood := { row := fnExactPowerForUptoRow, standIns := [], harness := (true, "53cf24a0b2dc803689d43e05f1cd3aa1273f3c29075edcbd8b186c5ff29051b9"), looks := true }, kinds := [], alts := [], laidByText := true, laidKinds := [.data], laidTests := true, laidLooks := .later }
def FnExactPowerForUptoCardSaid : Prop := Claim7.holds Tryd.pinned (.plain (OpenSpec.upto fnExactPowerForSpec)) fnExactPowerForUptoCard

/-- THE SECOND FORM's CARD OF 'laws.FnExactFogText'. -/
def fnExactFogTextUptoCard : Claim7 := { stood := { row := fnExactFogTextUptoRow, standIns := [], harness := (true, "53cf24a0b2dc803689d43e05f1cd3aa1273f3c29075edcbd8b186c5ff29051b9"), looks := true }, kinds := [], alts := [], laidByText := true, laidKinds := [.data, .data, .data, .sentinel, .sentinel, .sentinel, .data], laidTests := true, laidLooks := .later }
def FnExactFogTextUptoCardSaid : Prop := Claim7.holds Tryd.pinned (.plain (OpenSpec.upto fnExactFogTextSpec)) fnExactFogTextUptoCard

/-- THE SECOND FORM's CARD OF 'laws.FnExactReadFog'. -/
def fnExactReadFogUptoCard : Claim7 := { stood := { row := fnExactReadFogUptoRow, standIns := [], harness := (true, "53cf24a0b2dc803689d43e05f1cd3aa1273f3c29075edcbd8b186c5ff29051b9"), looks := true }, kinds := [], alts := [], laidByText := true, laidKinds := [.data, .data, .data, .data, .sentinel, .sentinel, .sentinel, .sentinel, .sentinel, .data, .pinned], laidTests := true, laidLooks := .later }
def FnExactReadFogUptoCardSaid : Prop := Claim7.holds Tryd.pinned (.plain (OpenSpec.upto fnExactReadFogSpec)) fnExactReadFogUptoCard
end Rows
end Go.Proofs.YtbfhnfoaipaljaaDoor
