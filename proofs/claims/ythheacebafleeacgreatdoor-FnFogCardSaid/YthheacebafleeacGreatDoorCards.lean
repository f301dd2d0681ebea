/-
  DERIVED. GIVEN WITH THE SEED: THE CARDS: each row of YthheacebafleeacGreatDoorRows.lean that lists a variable, with what it lists TIED to the program's text (the seventh form; the later family's looks); each row that meets fmt, with fmt's text TOLD by the authors' own Lean function (tested against real Go, not proved from fmt's source: count such statements apart). THE CARD IS WHAT COUNTS. Prove the row's statement (the work); the ties are given (YthheacebafleeacGreatDoorTie.lean); close each card by the builder's one call (the guide's Derived/Test/ToyasCard.lean, 'card_holds'). Laid BY PROGRAM, IN A SANDBOX (cutbox-door.mjs). By AI agents, Wed Nov 11 2026. No macro, syntax, notation, axiom, sorry.
-/
import Derived.Test.YthheacebafleeacGreatDoorRows
import GoSem.ClaimSeven
namespace Go.Proofs.YthheacebafleeacGreatDoor
namespace Rows

/-- THE TIED CARD OF 'laws.FnFog'. -/
def fnFogCard : Claim7 := { stood := { row := fnFogRow, standIns := [], harness := (true, "ce8d4165543942c6d90de886802c0160f003aba22144ad037147bf574a530e33"), looks := true }, kinds := [], alts := [], laidByText := true, laidKinds := [.data, .data, .data, .data, .sentinel, .sentinel, .sentinel, .sentinel, .sentinel, .data, .data, .pinned], laidTests := true, laidLooks := .later }
def FnFogCardSaid : Prop := Claim7.holds Tryz.pinned (.plain (OpenSpec.ofChange fnFogSpec)) fnFogCard

/-- THE SECOND FORM's CARD OF 'laws.FnFog'. -/
def fnFogUptoCard : Claim7 := { stood := { row := fnFogUptoRow, standIns := [], harness := (true, "ce8d4165543942c6d90de886802c0160f003aba22144ad037147bf574a530e33"), looks := true }, kinds := [], alts := [], laidByText := true, laidKinds := [.data, .data, .data, .data, .sentinel, .sentinel, .sentinel, .sentinel, .sentinel, .data, .data, .pinned], laidTests := true, laidLooks := .later }
def FnFogUptoCardSaid : Prop := Claim7.holds Tryz.pinned (.plain (OpenSpec.upto fnFogSpec)) fnFogUptoCard
end Rows
end Go.Proofs.YthheacebafleeacGreatDoor
