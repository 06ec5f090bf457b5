/-
  DERIVED. GIVEN WITH THE SEED: THE CARDS: each row of YtajcalmjdfhedaaDoorRows.lean that lists a variable, with what it lists TIED to the program's text (the seventh form; the later family's looks); each row that meets fmt, with fmt's text TOLD by the authors' own Lean function (tested against real Go, not proved from fmt's source: count such statements apart). THE CARD IS WHAT COUNTS. Prove the row's statement (the work); the ties are given (YtajcalmjdfhedaaDoorTie.lean); close each card by the builder's one call (the guide's Derived/Test/ToyasCard.lean, 'card_holds'). Laid BY PROGRAM, IN A SANDBOX (cutbox-door.mjs). By AI agents, Wed Nov 11 2026. No macro, syntax, notation, axiom, sorry.
-/
import Derived.Test.YtajcalmjdfhedaaDoorRows
import GoSem.ClaimSeven
namespace Go.Proofs.YtajcalmjdfhedaaDoor
namespace Rows

/-- THE TIED CARD OF 'mapsheetslaw06.GlyphDecodes'. -/
def glyphDecodesCard : Claim7 := { stood := { row := glyphDecodesRow, standIns := [], harness := (true, "bc46b6080b7c1319711c1b16e521971885618b48858f7e068895e7a19f784b37"), looks := false }, kinds := [], alts := [], laidByText := true, laidKinds := [.data, .data], laidTests := true, laidLooks := .later }
def GlyphDecodesCardSaid : Prop := Claim7.holds Tryd.pinned (.plain (OpenSpec.ofChange glyphDecodesSpec)) glyphDecodesCard

/-- THE TIED CARD OF 'mapsheetslaw06.GlyphEncodes'. -/
def glyphEncodesCard : Claim7 := { stood := { row := glyphEncodesRow, standIns := [], harness := (true, "bc46b6080b7c1319711c1b16e521971885618b48858f7e068895e7a19f784b37"), looks := false }, kinds := [], alts := [], laidByText := true, laidKinds := [.data, .data], laidTests := true, laidLooks := .later }
def GlyphEncodesCardSaid : Prop := Claim7.holds Tryd.pinned (.plain (OpenSpec.ofChange glyphEncodesSpec)) glyphEncodesCard

/-- THE TIED CARD OF 'mapsheetslaw06.GlyphBack'. -/
def glyphBackCard : Claim7 := { stood := { row := glyphBackRow, standIns := [], harness := (true, "bc46b6080b7c1319711c1b16e521971885618b48858f7e068895e7a19f784b37"), looks := false }, kinds := [], alts := [], laidByText := true, laidKinds := [.data, .data], laidTests := true, laidLooks := .later }
def GlyphBackCardSaid : Prop := Claim7.holds Tryd.pinned (.plain (OpenSpec.ofChange glyphBackSpec)) glyphBackCard

/-- THE TIED CARD OF 'mapsheetslaw06.GlyphTables'. -/
def glyphTablesCard : Claim7 := { stood := { row := glyphTablesRow, standIns := [], harness := (true, "bc46b6080b7c1319711c1b16e521971885618b48858f7e068895e7a19f784b37"), looks := false }, kinds := [], alts := [], laidByText := true, laidKinds := [.data, .data], laidTests := true, laidLooks := .later }
def GlyphTablesCardSaid : Prop := Claim7.holds Tryd.pinned (.plain (OpenSpec.ofChange glyphTablesSpec)) glyphTablesCard

/-- THE TIED CARD OF 'mapsheetslaw06.GlyphFolds'. -/
def glyphFoldsCard : Claim7 := { stood := { row := glyphFoldsRow, standIns := [], harness := (true, "bc46b6080b7c1319711c1b16e521971885618b48858f7e068895e7a19f784b37"), looks := false }, kinds := [], alts := [], laidByText := true, laidKinds := [.data, .data], laidTests := true, laidLooks := .later }
def GlyphFoldsCardSaid : Prop := Claim7.holds Tryd.pinned (.plain (OpenSpec.ofChange glyphFoldsSpec)) glyphFoldsCard

/-- THE TIED CARD OF 'mapsheetslaw06.GlyphWidths'. -/
def glyphWidthsCard : Claim7 := { stood := { row := glyphWidthsRow, standIns := [], harness := (true, "bc46b6080b7c1319711c1b16e521971885618b48858f7e068895e7a19f784b37"), looks := false }, kinds := [], alts := [], laidByText := true, laidKinds := [.data, .data], laidTests := true, laidLooks := .later }
def GlyphWidthsCardSaid : Prop := Claim7.holds Tryd.pinned (.plain (OpenSpec.ofChange glyphWidthsSpec)) glyphWidthsCard

/-- THE TIED CARD OF 'mapsheetslaw06.GlyphOrders'. -/
def glyphOrdersCard : Claim7 := { stood := { row := glyphOrdersRow, standIns := [], harness := (true, "bc46b6080b7c1319711c1b16e521971885618b48858f7e068895e7a19f784b37"), looks := false }, kinds := [], alts := [], laidByText := true, laidKinds := [.data, .data], laidTests := true, laidLooks := .later }
def GlyphOrdersCardSaid : Prop := Claim7.holds Tryd.pinned (.plain (OpenSpec.ofChange glyphOrdersSpec)) glyphOrdersCard

/-- THE TIED CARD OF 'mapsheetslaw06.GlyphMoves'. -/
def glyphMovesCard : Claim7 := { stood := { row := glyphMovesRow, standIns := [], harness := (true, "bc46b6080b7c1319711c1b16e521971885618b48858f7e068895e7a19f784b37"), looks := false }, kinds := [], alts := [], laidByText := true, laidKinds := [.data, .data], laidTests := true, laidLooks := .later }
def GlyphMovesCardSaid : Prop := Claim7.holds Tryd.pinned (.plain (OpenSpec.ofChange glyphMovesSpec)) glyphMovesCard

/-- THE TIED CARD OF 'mapsheetslaw06.GlyphJoins'. -/
def glyphJoinsCard : Claim7 := { stood := { row := glyphJoinsRow, standIns := [], harness := (true, "bc46b6080b7c1319711c1b16e521971885618b48858f7e068895e7a19f784b37"), looks := false }, kinds := [], alts := [], laidByText := true, laidKinds := [.data, .data], laidTests := true, laidLooks := .later }
def GlyphJoinsCardSaid : Prop := Claim7.holds Tryd.pinned (.plain (OpenSpec.ofChange glyphJoinsSpec)) glyphJoinsCard

/-- THE SECOND FORM's CARD OF 'mapsheetslaw06.GlyphDecodes'. -/
def glyphDecodesUptoCard : Claim7 := { stood := { row := glyphDecodesUptoRow, standIns := [], harness := (true, "bc46b6080b7c1319711c1b16e521971885618b48858f7e068895e7a19f784b37"), looks := false }, kinds := [], alts := [], laidByText := true, laidKinds := [.data, .data], laidTests := true, laidLooks := .later }
def GlyphDecodesUptoCardSaid : Prop := Claim7.holds Tryd.pinned (.plain (OpenSpec.upto glyphDecodesSpec)) glyphDecodesUptoCard

/-- THE SECOND FORM's CARD OF 'mapsheetslaw06.GlyphEncodes'. -/
def glyphEncodesUptoCard : Claim7 := { stood := { row := glyphEncodesUptoRow, standIns := [], harness := (true, "bc46b6080b7c1319711c1b16e521971885618b48858f7e068895e7a19f784b37"), looks := false }, kinds := [], alts := [], laidByText := true, laidKinds := [.data, .data], laidTests := true, laidLooks := .later }
def GlyphEncodesUptoCardSaid : Prop := Claim7.holds Tryd.pinned (.plain (OpenSpec.upto glyphEncodesSpec)) glyphEncodesUptoCard

/-- THE SECOND FORM's CARD OF 'mapsheetslaw06.GlyphBack'. -/
def glyphBackUptoCard : Claim7 := { stood := { row := glyphBackUptoRow, standIns := [], harness := (true, "bc46b6080b7c1319711c1b16e521971885618b48858f7e068895e7a19f784b37"), looks := false }, kinds := [], alts := [], laidByText := true, laidKinds := [.data, .data], laidTests := true, laidLooks := .later }
def GlyphBackUptoCardSaid : Prop := Claim7.holds Tryd.pinned (.plain (OpenSpec.upto glyphBackSpec)) glyphBackUptoCard

/-- THE SECOND FORM's CARD OF 'mapsheetslaw06.GlyphTables'. -/
def glyphTablesUptoCard : Claim7 := { stood := { row := glyphTablesUptoRow, standIns := [], harness := (true, "bc46b6080b7c1319711c1b16e521971885618b48858f7e068895e7a19f784b37"), looks := false }, kinds := [], alts := [], laidByText := true, laidKinds := [.data, .data], laidTests := true, laidLooks := .later }
def GlyphTablesUptoCardSaid : Prop := Claim7.holds Tryd.pinned (.plain (OpenSpec.upto glyphTablesSpec)) glyphTablesUptoCard

/-- THE SECOND FORM's CARD OF 'mapsheetslaw06.GlyphFolds'. -/
def glyphFoldsUptoCard : Claim7 := { stood := { row := glyphFoldsUptoRow, standIns := [], harness := (true, "bc46b6080b7c1319711c1b16e521971885618b48858f7e068895e7a19f784b37"), looks := false }, kinds := [], alts := [], laidByText := true, laidKinds := [.data, .data], laidTests := true, laidLooks := .later }
def GlyphFoldsUptoCardSaid : Prop := Claim7.holds Tryd.pinned (.plain (OpenSpec.upto glyphFoldsSpec)) glyphFoldsUptoCard

/-- THE SECOND FORM's CARD OF 'mapsheetslaw06.GlyphWidths'. -/
def glyphWidthsUptoCard : Claim7 := { stood := { row := glyphWidthsUptoRow, standIns := [], harness := (true, "bc46b6080b7c1319711c1b16e521971885618b48858f7e068895e7a19f784b37"), looks := false }, kinds := [], alts := [], laidByText := true, laidKinds := [.data, .data], laidTests := true, laidLooks := .later }
def GlyphWidthsUptoCardSaid : Prop := Claim7.holds Tryd.pinned (.plain (OpenSpec.upto glyphWidthsSpec)) glyphWidthsUptoCard

/-- THE SECOND FORM's CARD OF 'mapsheetslaw06.GlyphOrders'. -/
def glyphOrdersUptoCard : Claim7 := { stood := { row := glyphOrdersUptoRow, standIns := [], harness := (true, "bc46b6080b7c1319711c1b16e521971885618b48858f7e068895e7a19f784b37"), looks := false }, kinds := [], alts := [], laidByText := true, laidKinds := [.data, .data], laidTests := true, laidLooks := .later }
def GlyphOrdersUptoCardSaid : Prop := Claim7.holds Tryd.pinned (.plain (OpenSpec.upto glyphOrdersSpec)) glyphOrdersUptoCard

/-- THE SECOND FORM's CARD OF 'mapsheetslaw06.GlyphMoves'. -/
def glyphMovesUptoCard : Claim7 := { stood := { row := glyphMovesUptoRow, standIns := [], harness := (true, "bc46b6080b7c1319711c1b16e521971885618b48858f7e068895e7a19f784b37"), looks := false }, kinds := [], alts := [], laidByText := true, laidKinds := [.data, .data], laidTests := true, laidLooks := .later }
def GlyphMovesUptoCardSaid : Prop := Claim7.holds Tryd.pinned (.plain (OpenSpec.upto glyphMovesSpec)) glyphMovesUptoCard

/-- THE SECOND FORM's CARD OF 'mapsheetslaw06.GlyphJoins'. -/
def glyphJoinsUptoCard : Claim7 := { stood := { row := glyphJoinsUptoRow, standIns := [], harness := (true, "bc46b6080b7c1319711c1b16e521971885618b48858f7e068895e7a19f784b37"), looks := false }, kinds := [], alts := [], laidByText := true, laidKinds := [.data, .data], laidTests := true, laidLooks := .later }
def GlyphJoinsUptoCardSaid : Prop := Claim7.holds Tryd.pinned (.plain (OpenSpec.upto glyphJoinsSpec)) glyphJoinsUptoCard
end Rows
end Go.Proofs.YtajcalmjdfhedaaDoor
