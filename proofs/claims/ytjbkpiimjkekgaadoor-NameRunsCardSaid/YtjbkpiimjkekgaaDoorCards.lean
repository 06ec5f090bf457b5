/-
  DERIVED. GIVEN WITH THE SEED: THE CARDS: each row of YtjbkpiimjkekgaaDoorRows.lean that lists a variable, with what it lists TIED to the program's text (the seventh form; the later family's looks); each row that meets fmt, with fmt's text TOLD by the authors' own Lean function (tested against real Go, not proved from fmt's source: count such statements apart). THE CARD IS WHAT COUNTS. Prove the row's statement (the work); the ties are given (YtjbkpiimjkekgaaDoorTie.lean); close each card by the builder's one call (the guide's Derived/Test/ToyasCard.lean, 'card_holds'). Laid BY PROGRAM, IN A SANDBOX (cutbox-door.mjs). By AI agents, Wed Nov 11 2026. No macro, syntax, notation, axiom, sorry.
-/
import Derived.Test.YtjbkpiimjkekgaaDoorRows
import GoSem.ClaimSeven
namespace Go.Proofs.YtjbkpiimjkekgaaDoor
namespace Rows

/-- THE TIED CARD OF 'mapsheetslaw07.NameChecks'. -/
def nameChecksCard : Claim7 := { stood := { row := nameChecksRow, standIns := [], harness := (true, "1c5ff3cf72560468baa7faab0230e63b0603767ce92212b5d941c08bd7953cfb"), looks := false }, kinds := [], alts := [], laidByText := true, laidKinds := [.data, .data, .data, .pinned], laidTests := true, laidLooks := .later }
def NameChecksCardSaid : Prop := Claim7.holds Tryd.pinned (.plain (OpenSpec.ofChange nameChecksSpec)) nameChecksCard

/-- THE TIED CARD OF 'mapsheetslaw07.NameCompares'. -/
def nameComparesCard : Claim7 := { stood := { row := nameComparesRow, standIns := [], harness := (true, "1c5ff3cf72560468baa7faab0230e63b0603767ce92212b5d941c08bd7953cfb"), looks := false }, kinds := [], alts := [], laidByText := true, laidKinds := [.data, .data, .data, .pinned], laidTests := true, laidLooks := .later }
def NameComparesCardSaid : Prop := Claim7.holds Tryd.pinned (.plain (OpenSpec.ofChange nameComparesSpec)) nameComparesCard

/-- THE TIED CARD OF 'mapsheetslaw07.NameOrders'. -/
def nameOrdersCard : Claim7 := { stood := { row := nameOrdersRow, standIns := [], harness := (true, "1c5ff3cf72560468baa7faab0230e63b0603767ce92212b5d941c08bd7953cfb"), looks := false }, kinds := [], alts := [], laidByText := true, laidKinds := [.data, .data, .data, .pinned], laidTests := true, laidLooks := .later }
def NameOrdersCardSaid : Prop := Claim7.holds Tryd.pinned (.plain (OpenSpec.ofChange nameOrdersSpec)) nameOrdersCard

/-- THE TIED CARD OF 'mapsheetslaw07.NameRuns'. -/
def nameRunsCard : Claim7 := { stood := { row := nameRunsRow, standIns := [], harness := (true, "1c5ff3cf72560468baa7faab0230e63b0603767ce92212b5d941c08bd7953cfb"), looks := false }, kinds := [], alts := [], laidByText := true, laidKinds := [.data, .data, .data, .pinned], laidTests := true, laidLooks := .later }
def NameRunsCardSaid : Prop := Claim7.holds Tryd.pinned (.plain (OpenSpec.ofChange nameRunsSpec)) nameRunsCard

/-- THE TIED CARD OF 'mapsheetslaw07.NameWidths'. -/
def nameWidthsCard : Claim7 := { stood := { row := nameWidthsRow, standIns := [], harness := (true, "1c5ff3cf72560468baa7faab0230e63b0603767ce92212b5d941c08bd7953cfb"), looks := false }, kinds := [], alts := [], laidByText := true, laidKinds := [.data, .data, .data, .pinned], laidTests := true, laidLooks := .later }
def NameWidthsCardSaid : Prop := Claim7.holds Tryd.pinned (.plain (OpenSpec.ofChange nameWidthsSpec)) nameWidthsCard

/-- THE TIED CARD OF 'mapsheetslaw07.NameFolds'. -/
def nameFoldsCard : Claim7 := { stood := { row := nameFoldsRow, standIns := [], harness := (true, "1c5ff3cf72560468baa7faab0230e63b0603767ce92212b5d941c08bd7953cfb"), looks := false }, kinds := [], alts := [], laidByText := true, laidKinds := [.data, .data, .data, .pinned], laidTests := true, laidLooks := .later }
def NameFoldsCardSaid : Prop := Claim7.holds Tryd.pinned (.plain (OpenSpec.ofChange nameFoldsSpec)) nameFoldsCard

/-- THE TIED CARD OF 'mapsheetslaw07.NameSpells'. -/
def nameSpellsCard : Claim7 := { stood := { row := nameSpellsRow, standIns := [], harness := (true, "1c5ff3cf72560468baa7faab0230e63b0603767ce92212b5d941c08bd7953cfb"), looks := false }, kinds := [], alts := [], laidByText := true, laidKinds := [.data, .data, .data, .pinned], laidTests := true, laidLooks := .later }
def NameSpellsCardSaid : Prop := Claim7.holds Tryd.pinned (.plain (OpenSpec.ofChange nameSpellsSpec)) nameSpellsCard

/-- THE SECOND FORM's CARD OF 'mapsheetslaw07.NameChecks'. -/
def nameChecksUptoCard : Claim7 := { stood := { row := nameChecksUptoRow, standIns := [], harness := (true, "1c5ff3cf72560468baa7faab0230e63b0603767ce92212b5d941c08bd7953cfb"), looks := false }, kinds := [], alts := [], laidByText := true, laidKinds := [.data, .data, .data, .pinned], laidTests := true, laidLooks := .later }
def NameChecksUptoCardSaid : Prop := Claim7.holds Tryd.pinned (.plain (OpenSpec.upto nameChecksSpec)) nameChecksUptoCard

/-- THE SECOND FORM's CARD OF 'mapsheetslaw07.NameCompares'. -/
def nameComparesUptoCard : Claim7 := { stood := { row := nameComparesUptoRow, standIns := [], harness := (true, "1c5ff3cf72560468baa7faab0230e63b0603767ce92212b5d941c08bd7953cfb"), looks := false }, kinds := [], alts := [], laidByText := true, laidKinds := [.data, .data, .data, .pinned], laidTests := true, laidLooks := .later }
def NameComparesUptoCardSaid : Prop := Claim7.holds Tryd.pinned (.plain (OpenSpec.upto nameComparesSpec)) nameComparesUptoCard

/-- THE SECOND FORM's CARD OF 'mapsheetslaw07.NameOrders'. -/
def nameOrdersUptoCard : Claim7 := { stood := { row := nameOrdersUptoRow, standIns := [], harness := (true, "1c5ff3cf72560468baa7faab0230e63b0603767ce92212b5d941c08bd7953cfb"), looks := false }, kinds := [], alts := [], laidByText := true, laidKinds := [.data, .data, .data, .pinned], laidTests := true, laidLooks := .later }
def NameOrdersUptoCardSaid : Prop := Claim7.holds Tryd.pinned (.plain (OpenSpec.upto nameOrdersSpec)) nameOrdersUptoCard

/-- THE SECOND FORM's CARD OF 'mapsheetslaw07.NameRuns'. -/
def nameRunsUptoCard : Claim7 := { stood := { row := nameRunsUptoRow, standIns := [], harness := (true, "1c5ff3cf72560468baa7faab0230e63b0603767ce92212b5d941c08bd7953cfb"), looks := false }, kinds := [], alts := [], laidByText := true, laidKinds := [.data, .data, .data, .pinned], laidTests := true, laidLooks := .later }
def NameRunsUptoCardSaid : Prop := Claim7.holds Tryd.pinned (.plain (OpenSpec.upto nameRunsSpec)) nameRunsUptoCard

/-- THE SECOND FORM's CARD OF 'mapsheetslaw07.NameWidths'. -/
def nameWidthsUptoCard : Claim7 := { stood := { row := nameWidthsUptoRow, standIns := [], harness := (true, "1c5ff3cf72560468baa7faab0230e63b0603767ce92212b5d941c08bd7953cfb"), looks := false }, kinds := [], alts := [], laidByText := true, laidKinds := [.data, .data, .data, .pinned], laidTests := true, laidLooks := .later }
def NameWidthsUptoCardSaid : Prop := Claim7.holds Tryd.pinned (.plain (OpenSpec.upto nameWidthsSpec)) nameWidthsUptoCard

/-- THE SECOND FORM's CARD OF 'mapsheetslaw07.NameFolds'. -/
def nameFoldsUptoCard : Claim7 := { stood := { row := nameFoldsUptoRow, standIns := [], harness := (true, "1c5ff3cf72560468baa7faab0230e63b0603767ce92212b5d941c08bd7953cfb"), looks := false }, kinds := [], alts := [], laidByText := true, laidKinds := [.data, .data, .data, .pinned], laidTests := true, laidLooks := .later }
def NameFoldsUptoCardSaid : Prop := Claim7.holds Tryd.pinned (.plain (OpenSpec.upto nameFoldsSpec)) nameFoldsUptoCard

/-- THE SECOND FORM's CARD OF 'mapsheetslaw07.NameSpells'. -/
def nameSpellsUptoCard : Claim7 := { stood := { row := nameSpellsUptoRow, standIns := [], harness := (true, "1c5ff3cf72560468baa7faab0230e63b0603767ce92212b5d941c08bd7953cfb"), looks := false }, kinds := [], alts := [], laidByText := true, laidKinds := [.data, .data, .data, .pinned], laidTests := true, laidLooks := .later }
def NameSpellsUptoCardSaid : Prop := Claim7.holds Tryd.pinned (.plain (OpenSpec.upto nameSpellsSpec)) nameSpellsUptoCard
end Rows
end Go.Proofs.YtjbkpiimjkekgaaDoor
