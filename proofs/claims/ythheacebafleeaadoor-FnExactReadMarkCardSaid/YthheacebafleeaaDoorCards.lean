/-
  DERIVED. GIVEN WITH THE SEED: THE CARDS: each row of YthheacebafleeaaDoorRows.lean that lists a variable, with what it lists TIED to the program's text (the seventh form; the later family's looks); each row that meets fmt, with fmt's text TOLD by the authors' own Lean function (tested against real Go, not proved from fmt's source: count such statements apart). THE CARD IS WHAT COUNTS. Prove the row's statement (the work); the ties are given (YthheacebafleeaaDoorTie.lean); close each card by the builder's one call (the guide's Derived/Test/ToyasCard.lean, 'card_holds'). Laid BY PROGRAM, IN A SANDBOX (cutbox-door.mjs). By AI agents, Wed Nov 11 2026. No macro, syntax, notation, axiom, sorry.
-/
import Derived.Test.YthheacebafleeaaDoorRows
import GoSem.ClaimSeven
namespace Go.Proofs.YthheacebafleeaaDoor
namespace Rows

/-- THE TIED CARD OF 'laws.FnExactMarkName'. -/
def fnExactMarkNameCard : Claim7 := { stood := { row := fnExactMarkNameRow, standIns := [], harness := (true, "2de06b2663ebeb99381c8018321577a6b4876d270d8c59e1fbdb7d202d2d1a7e"), looks := false }, kinds := [], alts := [], laidByText := true, laidKinds := [.data], laidTests := true, laidLooks := .later }
def FnExactMarkNameCardSaid : Prop := Claim7.holds Tryd.pinned (.plain (OpenSpec.ofChange fnExactMarkNameSpec)) fnExactMarkNameCard

/-- THE TIED CARD OF 'laws.FnExactMarkNamed'. -/
def fnExactMarkNamedCard : Claim7 := { stood := { row := fnExactMarkNamedRow, standIns := [], harness := (true, "2de06b2663ebeb99381c8018321577a6b4876d270d8c59e1fbdb7d202d2d1a7e"), looks := false }, kinds := [], alts := [], laidByText := true, laidKinds := [.data], laidTests := true, laidLooks := .later }
def FnExactMarkNamedCardSaid : Prop := Claim7.holds Tryd.pinned (.plain (OpenSpec.ofChange fnExactMarkNamedSpec)) fnExactMarkNamedCard

/-- THE TIED CARD OF 'laws.FnExactStandardMark'. -/
def fnExactStandardMarkCard : Claim7 := { stood := { row := fnExactStandardMarkRow, standIns := [], harness := (true, "2de06b2663ebeb99381c8018321577a6b4876d270d8c59e1fbdb7d202d2d1a7e"), looks := false }, kinds := [], alts := [], laidByText := true, laidKinds := [.listed, .data, .data], laidTests := true, laidLooks := .later }
def FnExactStandardMarkCardSaid : Prop := Claim7.holds Tryd.pinned (.plain (OpenSpec.ofChange fnExactStandardMarkSpec)) fnExactStandardMarkCard

/-- THE TIED CARD OF 'laws.FnExactValidMark'. -/
def fnExactValidMarkCard : Claim7 := { stood := { row := fnExactValidMarkRow, standIns := [], harness := (true, "2de06b2663ebeb99381c8018321577a6b4876d270d8c59e1fbdb7d202d2d1a7e"), looks := false }, kinds := [], alts := [], laidByText := true, laidKinds := [.listed, .data, .data], laidTests := true, laidLooks := .later }
def FnExactValidMarkCardSaid : Prop := Claim7.holds Tryd.pinned (.plain (OpenSpec.ofChange fnExactValidMarkSpec)) fnExactValidMarkCard

/-- THE TIED CARD OF 'laws.FnExactSideToPass'. -/
def fnExactSideToPassCard : Claim7 := { stood := { row := fnExactSideToPassRow, standIns := [], harness := (true, "2de06b2663ebeb99381c8018321577a6b4876d270d8c59e1fbdb7d202d2d1a7e"), looks := false }, kinds := [], alts := [], laidByText := true, laidKinds := [.data], laidTests := true, laidLooks := .later }
def FnExactSideToPassCardSaid : Prop := Claim7.holds Tryd.pinned (.plain (OpenSpec.ofChange fnExactSideToPassSpec)) fnExactSideToPassCard

/-- THE TIED CARD OF 'laws.FnExactKindsLike'. -/
def fnExactKindsLikeCard : Claim7 := { stood := { row := fnExactKindsLikeRow, standIns := [], harness := (true, "2de06b2663ebeb99381c8018321577a6b4876d270d8c59e1fbdb7d202d2d1a7e"), looks := false }, kinds := [], alts := [], laidByText := true, laidKinds := [.listed, .data, .data], laidTests := true, laidLooks := .later }
def FnExactKindsLikeCardSaid : Prop := Claim7.holds Tryd.pinned (.plain (OpenSpec.ofChange fnExactKindsLikeSpec)) fnExactKindsLikeCard

/-- THE TIED CARD OF 'laws.FnExactMarkText'. -/
def fnExactMarkTextCard : Claim7 := { stood := { row := fnExactMarkTextRow, standIns := [], harness := (true, "2de06b2663ebeb99381c8018321577a6b4876d270d8c59e1fbdb7d202d2d1a7e"), looks := false }, kinds := [], alts := [], laidByText := true, laidKinds := [.listed, .data, .data], laidTests := true, laidLooks := .later }
def FnExactMarkTextCardSaid : Prop := Claim7.holds Tryd.pinned (.plain (OpenSpec.ofChange fnExactMarkTextSpec)) fnExactMarkTextCard

/-- THE TIED CARD OF 'laws.FnExactReadMark'. -/
def fnExactReadMarkCard : Claim7 := { stood := { row := fnExactReadMarkRow, standIns := [], harness := (true, "2de06b2663ebeb99381c8018321577a6b4876d270d8c59e1fbdb7d202d2d1a7e"), looks := false }, kinds := [], alts := [], laidByText := true, laidKinds := [.data, .listed, .data, .data, .pinned], laidTests := true, laidLooks := .later }
def FnExactReadMarkCardSaid : Prop := Claim7.holds Tryd.pinned (.plain (OpenSpec.ofChange fnExactReadMarkSpec)) fnExactReadMarkCard

/-- THE SECOND FORM's CARD OF 'laws.FnExactMarkName'. -/
def fnExactMarkNameUptoCard : Claim7 := { stood := { row := fnExactMarkNameUptoRow, standIns := [], harness := (true, "2de06b2663ebeb99381c8018321577a6b4876d270d8c59e1fbdb7d202d2d1a7e"), looks := false }, kinds := [], alts := [], laidByText := true, laidKinds := [.data], laidTests := true, laidLooks := .later }
def FnExactMarkNameUptoCardSaid : Prop := Claim7.holds Tryd.pinned (.plain (OpenSpec.upto fnExactMarkNameSpec)) fnExactMarkNameUptoCard

/-- THE SECOND FORM's CARD OF 'laws.FnExactMarkNamed'. -/
def fnExactMarkNamedUptoCard : Claim7 := { stood := { row := fnExactMarkNamedUptoRow, standIns := [], harness := (true, "2de06b2663ebeb99381c8018321577a6b4876d270d8c59e1fbdb7d202d2d1a7e"), looks := false }, kinds := [], alts := [], laidByText := true, laidKinds := [.data], laidTests := true, laidLooks := .later }
def FnExactMarkNamedUptoCardSaid : Prop := Claim7.holds Tryd.pinned (.plain (OpenSpec.upto fnExactMarkNamedSpec)) fnExactMarkNamedUptoCard

/-- THE SECOND FORM's CARD OF 'laws.FnExactStandardMark'. -/
def fnExactStandardMarkUptoCard : Claim7 := { stood := { row := fnExactStandardMarkUptoRow, standIns := [], harness := (true, "2de06b2663ebeb99381c8018321577a6b4876d270d8c59e1fbdb7d202d2d1a7e"), looks := false }, kinds := [], alts := [], laidByText := true, laidKinds := [.listed, .data, .data], laidTests := true, laidLooks := .later }
def FnExactStandardMarkUptoCardSaid : Prop := Claim7.holds Tryd.pinned (.plain (OpenSpec.upto fnExactStandardMarkSpec)) fnExactStandardMarkUptoCard

/-- THE SECOND FORM's CARD OF 'laws.FnExactValidMark'. -/
def fnExactValidMarkUptoCard : Claim7 := { stood := { row := fnExactValidMarkUptoRow, standIns := [], harness := (true, "2de06b2663ebeb99381c8018321577a6b4876d270d8c59e1fbdb7d202d2d1a7e"), looks := false }, kinds := [], alts := [], laidByText := true, laidKinds := [.listed, .data, .data], laidTests := true, laidLooks := .later }
def FnExactValidMarkUptoCardSaid : Prop := Claim7.holds Tryd.pinned (.plain (OpenSpec.upto fnExactValidMarkSpec)) fnExactValidMarkUptoCard

/-- THE SECOND FORM's CARD OF 'laws.FnExactSideToPass'. -/
def fnExactSideToPassUptoCard : Claim7 := { stood := { row := fnExactSideToPassUptoRow, standIns := [], harness := (true, "2de06b2663ebeb99381c8018321577a6b4876d270d8c59e1fbdb7d202d2d1a7e"), looks := false }, kinds := [], alts := [], laidByText := true, laidKinds := [.data], laidTests := true, laidLooks := .later }
def FnExactSideToPassUptoCardSaid : Prop := Claim7.holds Tryd.pinned (.plain (OpenSpec.upto fnExactSideToPassSpec)) fnExactSideToPassUptoCard

/-- THE SECOND FORM's CARD OF 'laws.FnExactKindsLike'. -/
def fnExactKindsLikeUptoCard : Claim7 := { stood := { row := fnExactKindsLikeUptoRow, standIns := [], harness := (true, "2de06b2663ebeb99381c8018321577a6b4876d270d8c59e1fbdb7d202d2d1a7e"), looks := false }, kinds := [], alts := [], laidByText := true, laidKinds := [.listed, .data, .data], laidTests := true, laidLooks := .later }
def FnExactKindsLikeUptoCardSaid : Prop := Claim7.holds Tryd.pinned (.plain (OpenSpec.upto fnExactKindsLikeSpec)) fnExactKindsLikeUptoCard

/-- THE SECOND FORM's CARD OF 'laws.FnExactMarkText'. -/
def fnExactMarkTextUptoCard : Claim7 := { stood := { row := fnExactMarkTextUptoRow, standIns := [], harness := (true, "2de06b2663ebeb99381c8018321577a6b4876d270d8c59e1fbdb7d202d2d1a7e"), looks := false }, kinds := [], alts := [], laidByText := true, laidKinds := [.listed, .data, .data], laidTests := true, laidLooks := .later }
def FnExactMarkTextUptoCardSaid : Prop := Claim7.holds Tryd.pinned (.plain (OpenSpec.upto fnExactMarkTextSpec)) fnExactMarkTextUptoCard

/-- THE SECOND FORM's CARD OF 'laws.FnExactReadMark'. -/
def fnExactReadMarkUptoCard : Claim7 := { stood := { row := fnExactReadMarkUptoRow, standIns := [], harness := (true, "2de06b2663ebeb99381c8018321577a6b4876d270d8c59e1fbdb7d202d2d1a7e"), looks := false }, kinds := [], alts := [], laidByText := true, laidKinds := [.data, .listed, .data, .data, .pinned], laidTests := true, laidLooks := .later }
def FnExactReadMarkUptoCardSaid : Prop := Claim7.holds Tryd.pinned (.plain (OpenSpec.upto fnExactReadMarkSpec)) fnExactReadMarkUptoCard
end Rows
end Go.Proofs.YthheacebafleeaaDoor
