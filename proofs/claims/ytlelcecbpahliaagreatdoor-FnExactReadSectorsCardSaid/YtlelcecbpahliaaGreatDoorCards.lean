/-
  DERIVED. GIVEN WITH THE SEED: THE CARDS: each row of YtlelcecbpahliaaGreatDoorRows.lean that lists a variable, with what it lists TIED to the program's text (the seventh form; the later family's looks); each row that meets fmt, with fmt's text TOLD by the authors' own Lean function (tested against real Go, not proved from fmt's source: count such statements apart). THE CARD IS WHAT COUNTS. Prove the row's statement (the work); the ties are given (YtlelcecbpahliaaGreatDoorTie.lean); close each card by the builder's one call (the guide's Derived/Test/ToyasCard.lean, 'card_holds'). Laid BY PROGRAM, IN A SANDBOX (cutbox-door.mjs). By AI agents, Wed Nov 11 2026. No macro, syntax, notation, axiom, sorry.
-/
import Derived.Test.YtlelcecbpahliaaGreatDoorRows
import GoSem.ClaimSeven
namespace Go.Proofs.YtlelcecbpahliaaGreatDoor
namespace Rows

/-- THE TIED CARD OF 'laws.FnExactReadSectors'. -/
def fnExactReadSectorsCard : Claim7 := { stood := { row := fnExactReadSectorsRow, standIns := [], harness := (true, "372a81c1b0ce9ccdeb24de1be0e32545a99d5b60795e148b14a87cddb3cbe479"), looks := true }, kinds := [], alts := [], laidByText := true, laidKinds := [.data, .data, .data, .data, .sentinel, .sentinel, .pinned], laidTests := true, laidLooks := .later }
def FnExactReadSectorsCardSaid : Prop := Claim7.holds Tryz.pinned (.plain (OpenSpec.ofChange fnExactReadSectorsSpec)) fnExactReadSectorsCard

/-- THE TIED CARD OF 'laws.FnExactReadChannel'. -/
def fnExactReadChannelCard : Claim7 := { stood := { row := fnExactReadChannelRow, standIns := [], harness := (true, "372a81c1b0ce9ccdeb24de1be0e32545a99d5b60795e148b14a87cddb3cbe479"), looks := true }, kinds := [], alts := [], laidByText := true, laidKinds := [.data, .data, .data, .data, .sentinel, .sentinel, .pinned], laidTests := true, laidLooks := .later }
def FnExactReadChannelCardSaid : Prop := Claim7.holds Tryz.pinned (.plain (OpenSpec.ofChange fnExactReadChannelSpec)) fnExactReadChannelCard

/-- THE TIED CARD OF 'laws.FnChannel'. -/
def fnChannelCard : Claim7 := { stood := { row := fnChannelRow, standIns := [], harness := (true, "372a81c1b0ce9ccdeb24de1be0e32545a99d5b60795e148b14a87cddb3cbe479"), looks := true }, kinds := [], alts := [], laidByText := true, laidKinds := [.data, .data, .data, .data, .sentinel, .sentinel, .pinned], laidTests := true, laidLooks := .later }
def FnChannelCardSaid : Prop := Claim7.holds Tryz.pinned (.plain (OpenSpec.ofChange fnChannelSpec)) fnChannelCard

/-- THE SECOND FORM's CARD OF 'laws.FnExactReadSectors'. -/
def fnExactReadSectorsUptoCard : Claim7 := { stood := { row := fnExactReadSectorsUptoRow, standIns := [], harness := (true, "372a81c1b0ce9ccdeb24de1be0e32545a99d5b60795e148b14a87cddb3cbe479"), looks := true }, kinds := [], alts := [], laidByText := true, laidKinds := [.data, .data, .data, .data, .sentinel, .sentinel, .pinned], laidTests := true, laidLooks := .later }
def FnExactReadSectorsUptoCardSaid : Prop := Claim7.holds Tryz.pinned (.plain (OpenSpec.upto fnExactReadSectorsSpec)) fnExactReadSectorsUptoCard

/-- THE SECOND FORM's CARD OF 'laws.FnExactReadChannel'. -/
def fnExactReadChannelUptoCard : Claim7 := { stood := { row := fnExactReadChannelUptoRow, standIns := [], harness := (true, "372a81c1b0ce9ccdeb24de1be0e32545a99d5b60795e148b14a87cddb3cbe479"), looks := true }, kinds := [], alts := [], laidByText := true, laidKinds := [.data, .data, .data, .data, .sentinel, .sentinel, .pinned], laidTests := true, laidLooks := .later }
def FnExactReadChannelUptoCardSaid : Prop := Claim7.holds Tryz.pinned (.plain (OpenSpec.upto fnExactReadChannelSpec)) fnExactReadChannelUptoCard

/-- THE SECOND FORM's CARD OF 'laws.FnChannel'. -/
def fnChannelUptoCard : Claim7 := { stood := { row := fnChannelUptoRow, standIns := [], harness := (true, "372a81c1b0ce9ccdeb24de1be0e32545a99d5b60795e148b14a87cddb3cbe479"), looks := true }, kinds := [], alts := [], laidByText := true, laidKinds := [.data, .data, .data, .data, .sentinel, .sentinel, .pinned], laidTests := true, laidLooks := .later }
def FnChannelUptoCardSaid : Prop := Claim7.holds Tryz.pinned (.plain (OpenSpec.upto fnChannelSpec)) fnChannelUptoCard
end Rows
end Go.Proofs.YtlelcecbpahliaaGreatDoor
