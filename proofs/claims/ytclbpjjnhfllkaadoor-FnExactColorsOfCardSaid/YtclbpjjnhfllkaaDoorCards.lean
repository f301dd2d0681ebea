/-
  DERIVED. GIVEN WITH THE SEED: THE CARDS: each row of YtclbpjjnhfllkaaDoorRows.lean that lists a variable, with what it lists TIED to the program's text (the seventh form; the later family's looks); each row that meets fmt, with fmt's text TOLD by the authors' own Lean function (tested against real Go, not proved from fmt's source: count such statements apart). THE CARD IS WHAT COUNTS. Prove the row's statement (the work); the ties are given (YtclbpjjnhfllkaaDoorTie.lean); close each card by the builder's one call (the guide's Derived/Test/ToyasCard.lean, 'card_holds'). Laid BY PROGRAM, IN A SANDBOX (cutbox-door.mjs). By AI agents, Wed Nov 11 2026. No macro, syntax, notation, axiom, sorry.
-/
import Derived.Test.YtclbpjjnhfllkaaDoorRows
import GoSem.ClaimSeven
namespace Go.Proofs.YtclbpjjnhfllkaaDoor
namespace Rows

/-- THE TIED CARD OF 'laws.FnExactColorsOf'. -/
def fnExactColorsOfCard : Claim7 := { stood := { row := fnExactColorsOfRow, standIns := [], harness := (true, "b7101e8b285ee77e0df197a77bf36a89770058e4096568550c5be52c1c2d53f9"), looks := false }, kinds := [], alts := [], laidByText := true, laidKinds := [.data, .pinned], laidTests := true, laidLooks := .later }
def FnExactColorsOfCardSaid : Prop := Claim7.holds Tryd.pinned (.plain (OpenSpec.ofChange fnExactColorsOfSpec)) fnExactColorsOfCard

/-- THE TIED CARD OF 'laws.FnExactSectorsText'. -/
def fnExactSectorsTextCard : Claim7 := { stood := { row := fnExactSectorsTextRow, standIns := [], harness := (true, "b7101e8b285ee77e0df197a77bf36a89770058e4096568550c5be52c1c2d53f9"), looks := false }, kinds := [], alts := [], laidByText := true, laidKinds := [.data, .data, .data], laidTests := true, laidLooks := .later }
def FnExactSectorsTextCardSaid : Prop := Claim7.holds Tryd.pinned (.plain (OpenSpec.ofChange fnExactSectorsTextSpec)) fnExactSectorsTextCard

/-- THE SECOND FORM's CARD OF 'laws.FnExactColorsOf'. -/
def fnExactColorsOfUptoCard : Claim7 := { stood := { row := fnExactColorsOfUptoRow, standIns := [], harness := (true, "b7101e8b285ee77e0df197a77bf36a89770058e4096568550c5be52c1c2d53f9"), looks := false }, kinds := [], alts := [], laidByText := true, laidKinds := [.data, .pinned], laidTests := true, laidLooks := .later }
def FnExactColorsOfUptoCardSaid : Prop := Claim7.holds Tryd.pinned (.plain (OpenSpec.upto fnExactColorsOfSpec)) fnExactColorsOfUptoCard

/-- THE SECOND FORM's CARD OF 'laws.FnExactSectorsText'. -/
def fnExactSectorsTextUptoCard : Claim7 := { stood := { row := fnExactSectorsTextUptoRow, standIns := [], harness := (true, "b7101e8b285ee77e0df197a77bf36a89770058e4096568550c5be52c1c2d53f9"), looks := false }, kinds := [], alts := [], laidByText := true, laidKinds := [.data, .data, .data], laidTests := true, laidLooks := .later }
def FnExactSectorsTextUptoCardSaid : Prop := Claim7.holds Tryd.pinned (.plain (OpenSpec.upto fnExactSectorsTextSpec)) fnExactSectorsTextUptoCard
end Rows
end Go.Proofs.YtclbpjjnhfllkaaDoor
