/-
  DERIVED. GIVEN WITH THE SEED: THE CARDS: each row of YtcoldhdghcdaeabDoorRows.lean that lists a variable, with what it lists TIED to the program's text (the seventh form; the later family's looks); each row that meets fmt, with fmt's text TOLD by the authors' own Lean function (tested against real Go, not proved from fmt's source: count such statements apart). THE CARD IS WHAT COUNTS. Prove the row's statement (the work); the ties are given (YtcoldhdghcdaeabDoorTie.lean); close each card by the builder's one call (the guide's Derived/Test/ToyasCard.lean, 'card_holds'). Laid BY PROGRAM, IN A SANDBOX (cutbox-door.mjs). By AI agents, Wed Nov 11 2026. No macro, syntax, notation, axiom, sorry.
-/
import Derived.Test.YtcoldhdghcdaeabDoorRows
import GoSem.ClaimSeven
namespace Go.Proofs.YtcoldhdghcdaeabDoor
namespace Rows

/-- THE TIED CARD OF 'laws.FnExactChannelText'. -/
def fnExactChannelTextCard : Claim7 := { stood := { row := fnExactChannelTextRow, standIns := [], harness := (true, "24cfaac36f6950fe9306bf65fd5d942a023ffd536441b7883790512b8cce0add"), looks := false }, kinds := [], alts := [], laidByText := true, laidKinds := [.data, .data, .data], laidTests := true, laidLooks := .later }
def FnExactChannelTextCardSaid : Prop := Claim7.holds Tryd.pinned (.plain (OpenSpec.ofChange fnExactChannelTextSpec)) fnExactChannelTextCard

/-- THE SECOND FORM's CARD OF 'laws.FnExactChannelText'. -/
def fnExactChannelTextUptoCard : Claim7 := { stood := { row := fnExactChannelTextUptoRow, standIns := [], harness := (true, "24cfaac36f6950fe9306bf65fd5d942a023ffd536441b7883790512b8cce0add"), looks := false }, kinds := [], alts := [], laidByText := true, laidKinds := [.data, .data, .data], laidTests := true, laidLooks := .later }
def FnExactChannelTextUptoCardSaid : Prop := Claim7.holds Tryd.pinned (.plain (OpenSpec.upto fnExactChannelTextSpec)) fnExactChannelTextUptoCard
end Rows
end Go.Proofs.YtcoldhdghcdaeabDoor
