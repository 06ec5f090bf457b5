/-
  DERIVED. GIVEN WITH THE SEED: THE CARDS: each row of YtnlkpnpjmbpgbaaDoorRows.lean that lists a variable, with what it lists TIED to the program's text (the seventh form; the later family's looks); each row that meets fmt, with fmt's text TOLD by the authors' own Lean function (tested against real Go, not proved from fmt's source: count such statements apart). THE CARD IS WHAT COUNTS. Prove the row's statement (the work); the ties are given (YtnlkpnpjmbpgbaaDoorTie.lean); close each card by the builder's one call (the guide's Derived/Test/ToyasCard.lean, 'card_holds'). Laid BY PROGRAM, IN A SANDBOX (cutbox-door.mjs). By AI agents, Wed Nov 11 2026. No macro, syntax, notation, axiom, sorry.
-/
import Derived.Test.YtnlkpnpjmbpgbaaDoorRows
import GoSem.ClaimSeven
namespace Go.Proofs.YtnlkpnpjmbpgbaaDoor
namespace Rows

/-- THE TIED CARD OF 'mapsheetslaw03.DigestValues'. -/
def digestValuesCard : Claim7 := { stood := { row := digestValuesRow, standIns := [], harness := (true, "905b857fb875737e88f0c180928646d861ba9c02f2ce9b01f8ff69cb571f347c"), looks := false }, kinds := [], alts := [], laidByText := true, laidKinds := [.data], laidTests := true, laidLooks := .later }
def DigestValuesCardSaid : Prop := Claim7.holds Tryd.pinned (.plain (OpenSpec.ofChange digestValuesSpec)) digestValuesCard

/-- THE TIED CARD OF 'mapsheetslaw03.DigestMixes'. -/
def digestMixesCard : Claim7 := { stood := { row := digestMixesRow, standIns := [], harness := (true, "905b857fb875737e88f0c180928646d861ba9c02f2ce9b01f8ff69cb571f347c"), looks := false }, kinds := [], alts := [], laidByText := true, laidKinds := [.data], laidTests := true, laidLooks := .later }
def DigestMixesCardSaid : Prop := Claim7.holds Tryd.pinned (.plain (OpenSpec.ofChange digestMixesSpec)) digestMixesCard

/-- THE TIED CARD OF 'mapsheetslaw03.DigestHex'. -/
def digestHexCard : Claim7 := { stood := { row := digestHexRow, standIns := [], harness := (true, "905b857fb875737e88f0c180928646d861ba9c02f2ce9b01f8ff69cb571f347c"), looks := false }, kinds := [], alts := [], laidByText := true, laidKinds := [.data], laidTests := true, laidLooks := .later }
def DigestHexCardSaid : Prop := Claim7.holds Tryd.pinned (.plain (OpenSpec.ofChange digestHexSpec)) digestHexCard

/-- THE TIED CARD OF 'mapsheetslaw03.DigestSeals'. -/
def digestSealsCard : Claim7 := { stood := { row := digestSealsRow, standIns := [], harness := (true, "905b857fb875737e88f0c180928646d861ba9c02f2ce9b01f8ff69cb571f347c"), looks := false }, kinds := [], alts := [], laidByText := true, laidKinds := [.data], laidTests := true, laidLooks := .later }
def DigestSealsCardSaid : Prop := Claim7.holds Tryd.pinned (.plain (OpenSpec.ofChange digestSealsSpec)) digestSealsCard

/-- THE TIED CARD OF 'mapsheetslaw03.DigestOpens'. -/
def digestOpensCard : Claim7 := { stood := { row := digestOpensRow, standIns := [], harness := (true, "905b857fb875737e88f0c180928646d861ba9c02f2ce9b01f8ff69cb571f347c"), looks := false }, kinds := [], alts := [], laidByText := true, laidKinds := [.data], laidTests := true, laidLooks := .later }
def DigestOpensCardSaid : Prop := Claim7.holds Tryd.pinned (.plain (OpenSpec.ofChange digestOpensSpec)) digestOpensCard

/-- THE TIED CARD OF 'mapsheetslaw03.DigestLinear'. -/
def digestLinearCard : Claim7 := { stood := { row := digestLinearRow, standIns := [], harness := (true, "905b857fb875737e88f0c180928646d861ba9c02f2ce9b01f8ff69cb571f347c"), looks := false }, kinds := [], alts := [], laidByText := true, laidKinds := [.data], laidTests := true, laidLooks := .later }
def DigestLinearCardSaid : Prop := Claim7.holds Tryd.pinned (.plain (OpenSpec.ofChange digestLinearSpec)) digestLinearCard

/-- THE TIED CARD OF 'mapsheetslaw03.DigestDetects'. -/
def digestDetectsCard : Claim7 := { stood := { row := digestDetectsRow, standIns := [], harness := (true, "905b857fb875737e88f0c180928646d861ba9c02f2ce9b01f8ff69cb571f347c"), looks := false }, kinds := [], alts := [], laidByText := true, laidKinds := [.data], laidTests := true, laidLooks := .later }
def DigestDetectsCardSaid : Prop := Claim7.holds Tryd.pinned (.plain (OpenSpec.ofChange digestDetectsSpec)) digestDetectsCard

/-- THE SECOND FORM's CARD OF 'mapsheetslaw03.DigestValues'. -/
def digestValuesUptoCard : Claim7 := { stood := { row := digestValuesUptoRow, standIns := [], harness := (true, "905b857fb875737e88f0c180928646d861ba9c02f2ce9b01f8ff69cb571f347c"), looks := false }, kinds := [], alts := [], laidByText := true, laidKinds := [.data], laidTests := true, laidLooks := .later }
def DigestValuesUptoCardSaid : Prop := Claim7.holds Tryd.pinned (.plain (OpenSpec.upto digestValuesSpec)) digestValuesUptoCard

/-- THE SECOND FORM's CARD OF 'mapsheetslaw03.DigestMixes'. -/
def digestMixesUptoCard : Claim7 := { stood := { row := digestMixesUptoRow, standIns := [], harness := (true, "905b857fb875737e88f0c180928646d861ba9c02f2ce9b01f8ff69cb571f347c"), looks := false }, kinds := [], alts := [], laidByText := true, laidKinds := [.data], laidTests := true, laidLooks := .later }
def DigestMixesUptoCardSaid : Prop := Claim7.holds Tryd.pinned (.plain (OpenSpec.upto digestMixesSpec)) digestMixesUptoCard

/-- THE SECOND FORM's CARD OF 'mapsheetslaw03.DigestHex'. -/
def digestHexUptoCard : Claim7 := { stood := { row := digestHexUptoRow, standIns := [], harness := (true, "905b857fb875737e88f0c180928646d861ba9c02f2ce9b01f8ff69cb571f347c"), looks := false }, kinds := [], alts := [], laidByText := true, laidKinds := [.data], laidTests := true, laidLooks := .later }
def DigestHexUptoCardSaid : Prop := Claim7.holds Tryd.pinned (.plain (OpenSpec.upto digestHexSpec)) digestHexUptoCard

/-- THE SECOND FORM's CARD OF 'mapsheetslaw03.DigestSeals'. -/
def digestSealsUptoCard : Claim7 := { stood := { row := digestSealsUptoRow, standIns := [], harness := (true, "905b857fb875737e88f0c180928646d861ba9c02f2ce9b01f8ff69cb571f347c"), looks := false }, kinds := [], alts := [], laidByText := true, laidKinds := [.data], laidTests := true, laidLooks := .later }
def DigestSealsUptoCardSaid : Prop := Claim7.holds Tryd.pinned (.plain (OpenSpec.upto digestSealsSpec)) digestSealsUptoCard

/-- THE SECOND FORM's CARD OF 'mapsheetslaw03.DigestOpens'. -/
def digestOpensUptoCard : Claim7 := { stood := { row := digestOpensUptoRow, standIns := [], harness := (true, "905b857fb875737e88f0c180928646d861ba9c02f2ce9b01f8ff69cb571f347c"), looks := false }, kinds := [], alts := [], laidByText := true, laidKinds := [.data], laidTests := true, laidLooks := .later }
def DigestOpensUptoCardSaid : Prop := Claim7.holds Tryd.pinned (.plain (OpenSpec.upto digestOpensSpec)) digestOpensUptoCard

/-- THE SECOND FORM's CARD OF 'mapsheetslaw03.DigestLinear'. -/
def digestLinearUptoCard : Claim7 := { stood := { row := digestLinearUptoRow, standIns := [], harness := (true, "905b857fb875737e88f0c180928646d861ba9c02f2ce9b01f8ff69cb571f347c"), looks := false }, kinds := [], alts := [], laidByText := true, laidKinds := [.data], laidTests := true, laidLooks := .later }
def DigestLinearUptoCardSaid : Prop := Claim7.holds Tryd.pinned (.plain (OpenSpec.upto digestLinearSpec)) digestLinearUptoCard

/-- THE SECOND FORM's CARD OF 'mapsheetslaw03.DigestDetects'. -/
def digestDetectsUptoCard : Claim7 := { stood := { row := digestDetectsUptoRow, standIns := [], harness := (true, "905b857fb875737e88f0c180928646d861ba9c02f2ce9b01f8ff69cb571f347c"), looks := false }, kinds := [], alts := [], laidByText := true, laidKinds := [.data], laidTests := true, laidLooks := .later }
def DigestDetectsUptoCardSaid : Prop := Claim7.holds Tryd.pinned (.plain (OpenSpec.upto digestDetectsSpec)) digestDetectsUptoCard
end Rows
end Go.Proofs.YtnlkpnpjmbpgbaaDoor
