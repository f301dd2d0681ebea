/-
  DERIVED. GIVEN WITH THE SEED: THE CARDS: each row of YtgnajfdcbpfdjaaDoorRows.lean that lists a variable, with what it lists TIED to the program's text (the seventh form; the later family's looks); each row that meets fmt, with fmt's text TOLD by the authors' own Lean function (tested against real Go, not proved from fmt's source: count such statements apart). THE CARD IS WHAT COUNTS. Prove the row's statement (the work); the ties are given (YtgnajfdcbpfdjaaDoorTie.lean); close each card by the builder's one call (the guide's Derived/Test/ToyasCard.lean, 'card_holds'). Laid BY PROGRAM, IN A SANDBOX (cutbox-door.mjs). By AI agents, Wed Nov 11 2026. No macro, syntax, notation, axiom, sorry.
-/
import Derived.Test.YtgnajfdcbpfdjaaDoorRows
import GoSem.ClaimSeven
namespace Go.Proofs.YtgnajfdcbpfdjaaDoor
namespace Rows

/-- THE TIED CARD OF 'laws.FnExactReadSectors'. -/
def fnExactReadSectorsCard : Claim7 := { stood := { row := fnExactReadSectorsRow, standIns := [], harness := (true, "2847d07f47a0f7c36a3ae0c80b72aac6284cc89e5f2f85534a7ffb0df3ac8ba0"), looks := true }, kinds := [], alts := [], laidByText := true, laidKinds := [.data, .data, .data, .data, .sentinel, .sentinel, .pinned], laidTests := true, laidLooks := .later }
def FnExactReadSectorsCardSaid : Prop := Claim7.holds Tryd.pinned (.plain (OpenSpec.ofChange fnExactReadSectorsSpec)) fnExactReadSectorsCard

/-- THE TIED CARD OF 'laws.FnExactReadSignal'. -/
def fnExactReadSignalCard : Claim7 := { stood := { row := fnExactReadSignalRow, standIns := [], harness := (true, "2847d07f47a0f7c36a3ae0c80b72aac6284cc89e5f2f85534a7ffb0df3ac8ba0"), looks := true }, kinds := [], alts := [], laidByText := true, laidKinds := [.data, .data, .pinned], laidTests := true, laidLooks := .later }
def FnExactReadSignalCardSaid : Prop := Claim7.holds Tryd.pinned (.plain (OpenSpec.ofChange fnExactReadSignalSpec)) fnExactReadSignalCard

/-- THE TIED CARD OF 'laws.FnMorse'. -/
def fnMorseCard : Claim7 := { stood := { row := fnMorseRow, standIns := [], harness := (true, "2847d07f47a0f7c36a3ae0c80b72aac6284cc89e5f2f85534a7ffb0df3ac8ba0"), looks := true }, kinds := [], alts := [], laidByText := true, laidKinds := [.data, .data, .pinned], laidTests := true, laidLooks := .later }
def FnMorseCardSaid : Prop := Claim7.holds Tryd.pinned (.plain (OpenSpec.ofChange fnMorseSpec)) fnMorseCard

/-- THE SECOND FORM's CARD OF 'laws.FnExactReadSectors'. -/
def fnExactReadSectorsUptoCard : Claim7 := { stood := { row := fnExactReadSectorsUptoRow, standIns := [], harness := (true, "2847d07f47a0f7c36a3ae0c80b72aac6284cc89e5f2f85534a7ffb0df3ac8ba0"), looks := true }, kinds := [], alts := [], laidByText := true, laidKinds := [.data, .data, .data, .data, .sentinel, .sentinel, .pinned], laidTests := true, laidLooks := .later }
def FnExactReadSectorsUptoCardSaid : Prop := Claim7.holds Tryd.pinned (.plain (OpenSpec.upto fnExactReadSectorsSpec)) fnExactReadSectorsUptoCard

/-- THE SECOND FORM's CARD OF 'laws.FnExactReadSignal'. -/
def fnExactReadSignalUptoCard : Claim7 := { stood := { row := fnExactReadSignalUptoRow, standIns := [], harness := (true, "2847d07f47a0f7c36a3ae0c80b72aac6284cc89e5f2f85534a7ffb0df3ac8ba0"), looks := true }, kinds := [], alts := [], laidByText := true, laidKinds := [.data, .data, .pinned], laidTests := true, laidLooks := .later }
def FnExactReadSignalUptoCardSaid : Prop := Claim7.holds Tryd.pinned (.plain (OpenSpec.upto fnExactReadSignalSpec)) fnExactReadSignalUptoCard

/-- THE SECOND FORM's CARD OF 'laws.FnMorse'. -/
def fnMorseUptoCard : Claim7 := { stood := { row := fnMorseUptoRow, standIns := [], harness := (true, "2847d07f47a0f7c36a3ae0c80b72aac6284cc89e5f2f85534a7ffb0df3ac8ba0"), looks := true }, kinds := [], alts := [], laidByText := true, laidKinds := [.data, .data, .pinned], laidTests := true, laidLooks := .later }
def FnMorseUptoCardSaid : Prop := Claim7.holds Tryd.pinned (.plain (OpenSpec.upto fnMorseSpec)) fnMorseUptoCard
end Rows
end Go.Proofs.YtgnajfdcbpfdjaaDoor
