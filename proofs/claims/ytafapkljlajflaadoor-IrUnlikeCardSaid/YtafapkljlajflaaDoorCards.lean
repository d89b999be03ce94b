/-
  DERIVED. GIVEN WITH THE SEED: THE CARDS: each row of YtafapkljlajflaaDoorRows.lean that lists a variable, with what it lists TIED to the program's text (the seventh form; the later family's looks); each row that meets fmt, with fmt's text TOLD by the authors' own Lean function (tested against real Go, not proved from fmt's source: count such statements apart). THE CARD IS WHAT COUNTS. Prove the row's statement (the work); the ties are given (YtafapkljlajflaaDoorTie.lean); close each card by the builder's one call (the guide's Derived/Test/ToyasCard.lean, 'card_holds'). Laid BY PROGRAM, IN A SANDBOX (cutbox-door.mjs). By AI agents, Wed Nov 11 2026. No macro, syntax, notation, axiom, sorry.
-/
import Derived.Test.YtafapkljlajflaaDoorRows
import GoSem.ClaimSeven
namespace Go.Proofs.YtafapkljlajflaaDoor
namespace Rows

/-- THE TIED CARD OF 'counterprooflaw10.IrUnlike'. -/
def irUnlikeCard : Claim7 := { stood := { row := irUnlikeRow, standIns := [], harness := (true, "208e5e196a5f33cc57759162b2674ffd8da657b6ed866df9df1022e74b0e668f"), looks := false }, kinds := [], alts := [], laidByText := true, laidKinds := [.data, .data, .data], laidTests := true, laidLooks := .later }
def IrUnlikeCardSaid : Prop := Claim7.holds Tryd.pinned (.plain (OpenSpec.ofChange irUnlikeSpec)) irUnlikeCard

/-- THE TIED CARD OF 'counterprooflaw10.IrNames'. -/
def irNamesCard : Claim7 := { stood := { row := irNamesRow, standIns := [], harness := (true, "208e5e196a5f33cc57759162b2674ffd8da657b6ed866df9df1022e74b0e668f"), looks := false }, kinds := [], alts := [], laidByText := true, laidKinds := [.data, .data, .data], laidTests := true, laidLooks := .later }
def IrNamesCardSaid : Prop := Claim7.holds Tryd.pinned (.plain (OpenSpec.ofChange irNamesSpec)) irNamesCard

/-- THE TIED CARD OF 'counterprooflaw10.IrWrong'. -/
def irWrongCard : Claim7 := { stood := { row := irWrongRow, standIns := [], harness := (true, "208e5e196a5f33cc57759162b2674ffd8da657b6ed866df9df1022e74b0e668f"), looks := false }, kinds := [], alts := [], laidByText := true, laidKinds := [.data, .data, .data], laidTests := true, laidLooks := .later }
def IrWrongCardSaid : Prop := Claim7.holds Tryd.pinned (.plain (OpenSpec.ofChange irWrongSpec)) irWrongCard

/-- THE TIED CARD OF 'counterprooflaw10.IrPlaces'. -/
def irPlacesCard : Claim7 := { stood := { row := irPlacesRow, standIns := [], harness := (true, "208e5e196a5f33cc57759162b2674ffd8da657b6ed866df9df1022e74b0e668f"), looks := false }, kinds := [], alts := [], laidByText := true, laidKinds := [.data, .data, .data], laidTests := true, laidLooks := .later }
def IrPlacesCardSaid : Prop := Claim7.holds Tryd.pinned (.plain (OpenSpec.ofChange irPlacesSpec)) irPlacesCard

/-- THE TIED CARD OF 'counterprooflaw10.IrLines'. -/
def irLinesCard : Claim7 := { stood := { row := irLinesRow, standIns := [], harness := (true, "208e5e196a5f33cc57759162b2674ffd8da657b6ed866df9df1022e74b0e668f"), looks := false }, kinds := [], alts := [], laidByText := true, laidKinds := [.data, .data, .data], laidTests := true, laidLooks := .later }
def IrLinesCardSaid : Prop := Claim7.holds Tryd.pinned (.plain (OpenSpec.ofChange irLinesSpec)) irLinesCard

/-- THE SECOND FORM's CARD OF 'counterprooflaw10.IrUnlike'. -/
def irUnlikeUptoCard : Claim7 := { stood := { row := irUnlikeUptoRow, standIns := [], harness := (true, "208e5e196a5f33cc57759162b2674ffd8da657b6ed866df9df1022e74b0e668f"), looks := false }, kinds := [], alts := [], laidByText := true, laidKinds := [.data, .data, .data], laidTests := true, laidLooks := .later }
def IrUnlikeUptoCardSaid : Prop := Claim7.holds Tryd.pinned (.plain (OpenSpec.upto irUnlikeSpec)) irUnlikeUptoCard

/-- THE SECOND FORM's CARD OF 'counterprooflaw10.IrNames'. -/
def irNamesUptoCard : Claim7 := { stood := { row := irNamesUptoRow, standIns := [], harness := (true, "208e5e196a5f33cc57759162b2674ffd8da657b6ed866df9df1022e74b0e668f"), looks := false }, kinds := [], alts := [], laidByText := true, laidKinds := [.data, .data, .data], laidTests := true, laidLooks := .later }
def IrNamesUptoCardSaid : Prop := Claim7.holds Tryd.pinned (.plain (OpenSpec.upto irNamesSpec)) irNamesUptoCard

/-- THE SECOND FORM's CARD OF 'counterprooflaw10.IrWrong'. -/
def irWrongUptoCard : Claim7 := { stood := { row := irWrongUptoRow, standIns := [], harness := (true, "208e5e196a5f33cc57759162b2674ffd8da657b6ed866df9df1022e74b0e668f"), looks := false }, kinds := [], alts := [], laidByText := true, laidKinds := [.data, .data, .data], laidTests := true, laidLooks := .later }
def IrWrongUptoCardSaid : Prop := Claim7.holds Tryd.pinned (.plain (OpenSpec.upto irWrongSpec)) irWrongUptoCard

/-- THE SECOND FORM's CARD OF 'counterprooflaw10.IrPlaces'. -/
def irPlacesUptoCard : Claim7 := { stood := { row := irPlacesUptoRow, standIns := [], harness := (true, "208e5e196a5f33cc57759162b2674ffd8da657b6ed866df9df1022e74b0e668f"), looks := false }, kinds := [], alts := [], laidByText := true, laidKinds := [.data, .data, .data], laidTests := true, laidLooks := .later }
def IrPlacesUptoCardSaid : Prop := Claim7.holds Tryd.pinned (.plain (OpenSpec.upto irPlacesSpec)) irPlacesUptoCard

/-- THE SECOND FORM's CARD OF 'counterprooflaw10.IrLines'. -/
def irLinesUptoCard : Claim7 := { stood := { row := irLinesUptoRow, standIns := [], harness := (true, "208e5e196a5f33cc57759162b2674ffd8da657b6ed866df9df1022e74b0e668f"), looks := false }, kinds := [], alts := [], laidByText := true, laidKinds := [.data, .data, .data], laidTests := true, laidLooks := .later }
def IrLinesUptoCardSaid : Prop := Claim7.holds Tryd.pinned (.plain (OpenSpec.upto irLinesSpec)) irLinesUptoCard
end Rows
end Go.Proofs.YtafapkljlajflaaDoor
