/-
  NARROWER THAN 'FOR EVERY INPUT', by the rows' own cells (each row's printed sentence says how): DigestValues: laid · DigestMixes: laid · DigestHex: laid · DigestSeals: laid · DigestOpens: laid · DigestLinear: laid · DigestDetects: laid.
  DERIVED. THE GIVEN ROWS OF THIS SEAT. 7 by the template 'for every input the law returns true; each argument reads behind the call as it read before'; 0 by the template 'total and deterministic' (their statements: YtnlkpnpjmbpgbaaDoorTotals.lean).
  GIVEN WITH THE SEED: the statements are not yours to turn. If you find one false, say at which input.
  Laid BY PROGRAM, IN A SANDBOX (cutbox-rows.mjs): the forced cells as the released guide's own fill.sh prints them over the translation de675ed597becc30… (all of the seat's roots in one cut). By AI agents, Wed Nov 11 2026. No macro, syntax, notation, axiom, sorry.
-/
import Derived.Test.YtnlkpnpjmbpgbaaDoorChecked
import GoSem.Claim
import GoSem.ClaimJoined
import GoSem.ClaimMapViews
import Derived.JoinedTies
import Derived.KernelRfl
namespace Go.Proofs.YtnlkpnpjmbpgbaaDoor
/- THE CELL 'sum', in the pinned program and in every row, IS THE sha256 OF THE DUMP (.gsa) THAT YtnlkpnpjmbpgbaaDoorProg.lean LOADS. Nothing in Lean hashes anything: it is a label: what it is worth is what the hold of that sum in a sandbox is worth. -/
noncomputable def Tryd.pinned : Pinned := { name := "ytnlkpnpjmbpgbaadoor", sum := "de675ed597becc303504026d0bfbf12f73fb9356c7c2218879610cbf33450fe8", checked := Tryd.checked }
namespace Rows
def none {H : Type} : Left H := { results := [], args := [] }

/- WHAT THE LISTED PACKAGE-LEVEL VARIABLES READ AS WHEN THE CALL BEGINS. Each datum BY PROGRAM (the guide's laid-datum.mjs) off the statement by which the dump's own 'gosem.cut.vars' lays the variable. In a bare row this is a premise. The card (YtnlkpnpjmbpgbaaDoorCards.lean) ties it to the program's text. -/
def laid_mapsheets_digest_remainders {H : Type} : DataW H := .agg [.lit (.int .u32 0), .lit (.int .u32 498536548), .lit (.int .u32 997073096), .lit (.int .u32 651767980), .lit (.int .u32 1994146192), .lit (.int .u32 1802195444), .lit (.int .u32 1303535960), .lit (.int .u32 1342533948), .lit (.int .u32 3988292384), .lit (.int .u32 4027552580), .lit (.int .u32 3604390888), .lit (.int .u32 3412177804), .lit (.int .u32 2607071920), .lit (.int .u32 2262029012), .lit (.int .u32 2685067896), .lit (.int .u32 3183342108)]

/-- 'mapsheetslaw03.DigestValues': WHATEVER THE INPUT: true; the input reads as it did. -/
def digestValuesSpec : ChangeSpec := { name := "digestValues", fn := fun _ => fun
  | [d] => { results := [.lit (.bool true)], args := [d] }
  | _ => none }
def digestValuesRow : OpenClaim := { program := "ytnlkpnpjmbpgbaadoor", sum := "de675ed597becc303504026d0bfbf12f73fb9356c7c2218879610cbf33450fe8", func := "mapsheets/mapsheetslaw03.DigestValues", spec := "digestValues", named := ["mapsheets/digest.remainders"], apart := false, laid := [("mapsheets/digest.remainders", laid_mapsheets_digest_remainders)] }
def DigestValuesSaid : Prop := digestValuesRow.holds Tryd.pinned (OpenSpec.ofChange digestValuesSpec)

/-- ITS FALSE NEIGHBOUR: 'it returns false'. Refute it at one input. -/
def digestValuesWrong : ChangeSpec := { name := "digestValues", fn := fun _ => fun
  | [d] => { results := [.lit (.bool false)], args := [d] }
  | _ => none }
def DigestValuesWrongFalsely : Prop := digestValuesRow.holds Tryd.pinned (OpenSpec.ofChange digestValuesWrong)

/-- 'mapsheetslaw03.DigestMixes': WHATEVER THE INPUT: true; the input reads as it did. -/
def digestMixesSpec : ChangeSpec := { name := "digestMixes", fn := fun _ => fun
  | [d1, d2, d3] => { results := [.lit (.bool true)], args := [d1, d2, d3] }
  | _ => none }
def digestMixesRow : OpenClaim := { program := "ytnlkpnpjmbpgbaadoor", sum := "de675ed597becc303504026d0bfbf12f73fb9356c7c2218879610cbf33450fe8", func := "mapsheets/mapsheetslaw03.DigestMixes", spec := "digestMixes", named := ["mapsheets/digest.remainders"], apart := false, laid := [("mapsheets/digest.remainders", laid_mapsheets_digest_remainders)] }
def DigestMixesSaid : Prop := digestMixesRow.holds Tryd.pinned (OpenSpec.ofChange digestMixesSpec)

/-- ITS FALSE NEIGHBOUR: 'it returns false'. Refute it at one input. -/
def digestMixesWrong : ChangeSpec := { name := "digestMixes", fn := fun _ => fun
  | [d1, d2, d3] => { results := [.lit (.bool false)], args := [d1, d2, d3] }
  | _ => none }
def DigestMixesWrongFalsely : Prop := digestMixesRow.holds Tryd.pinned (OpenSpec.ofChange digestMixesWrong)

/-- 'mapsheetslaw03.DigestHex': WHATEVER THE INPUT: true; the input reads as it did. -/
def digestHexSpec : ChangeSpec := { name := "digestHex", fn := fun _ => fun
  | [d] => { results := [.lit (.bool true)], args := [d] }
  | _ => none }
def digestHexRow : OpenClaim := { program := "ytnlkpnpjmbpgbaadoor", sum := "de675ed597becc303504026d0bfbf12f73fb9356c7c2218879610cbf33450fe8", func := "mapsheets/mapsheetslaw03.DigestHex", spec := "digestHex", named := ["mapsheets/digest.remainders"], apart := false, laid := [("mapsheets/digest.remainders", laid_mapsheets_digest_remainders)] }
def DigestHexSaid : Prop := digestHexRow.holds Tryd.pinned (OpenSpec.ofChange digestHexSpec)

/-- ITS FALSE NEIGHBOUR: 'it returns false'. Refute it at one input. -/
def digestHexWrong : ChangeSpec := { name := "digestHex", fn := fun _ => fun
  | [d] => { results := [.lit (.bool false)], args := [d] }
  | _ => none }
def DigestHexWrongFalsely : Prop := digestHexRow.holds Tryd.pinned (OpenSpec.ofChange digestHexWrong)

/-- 'mapsheetslaw03.DigestSeals': WHATEVER THE INPUT: true; the input reads as it did. -/
def digestSealsSpec : ChangeSpec := { name := "digestSeals", fn := fun _ => fun
  | [d] => { results := [.lit (.bool true)], args := [d] }
  | _ => none }
def digestSealsRow : OpenClaim := { program := "ytnlkpnpjmbpgbaadoor", sum := "de675ed597becc303504026d0bfbf12f73fb9356c7c2218879610cbf33450fe8", func := "mapsheets/mapsheetslaw03.DigestSeals", spec := "digestSeals", named := ["mapsheets/digest.remainders"], apart := false, laid := [("mapsheets/digest.remainders", laid_mapsheets_digest_remainders)] }
def DigestSealsSaid : Prop := digestSealsRow.holds Tryd.pinned (OpenSpec.ofChange digestSealsSpec)

/-- ITS FALSE NEIGHBOUR: 'it returns false'. Refute it at one input. -/
def digestSealsWrong : ChangeSpec := { name := "digestSeals", fn := fun _ => fun
  | [d] => { results := [.lit (.bool false)], args := [d] }
  | _ => none }
def DigestSealsWrongFalsely : Prop := digestSealsRow.holds Tryd.pinned (OpenSpec.ofChange digestSealsWrong)

/-- 'mapsheetslaw03.DigestOpens': WHATEVER THE INPUT: true; the input reads as it did. -/
def digestOpensSpec : ChangeSpec := { name := "digestOpens", fn := fun _ => fun
  | [d] => { results := [.lit (.bool true)], args := [d] }
  | _ => none }
def digestOpensRow : OpenClaim := { program := "ytnlkpnpjmbpgbaadoor", sum := "de675ed597becc303504026d0bfbf12f73fb9356c7c2218879610cbf33450fe8", func := "mapsheets/mapsheetslaw03.DigestOpens", spec := "digestOpens", named := ["mapsheets/digest.remainders"], apart := false, laid := [("mapsheets/digest.remainders", laid_mapsheets_digest_remainders)] }
def DigestOpensSaid : Prop := digestOpensRow.holds Tryd.pinned (OpenSpec.ofChange digestOpensSpec)

/-- ITS FALSE NEIGHBOUR: 'it returns false'. Refute it at one input. -/
def digestOpensWrong : ChangeSpec := { name := "digestOpens", fn := fun _ => fun
  | [d] => { results := [.lit (.bool false)], args := [d] }
  | _ => none }
def DigestOpensWrongFalsely : Prop := digestOpensRow.holds Tryd.pinned (OpenSpec.ofChange digestOpensWrong)

/-- 'mapsheetslaw03.DigestLinear': WHATEVER THE INPUT: true; the input reads as it did. -/
def digestLinearSpec : ChangeSpec := { name := "digestLinear", fn := fun _ => fun
  | [d1, d2, d3] => { results := [.lit (.bool true)], args := [d1, d2, d3] }
  | _ => none }
def digestLinearRow : OpenClaim := { program := "ytnlkpnpjmbpgbaadoor", sum := "de675ed597becc303504026d0bfbf12f73fb9356c7c2218879610cbf33450fe8", func := "mapsheets/mapsheetslaw03.DigestLinear", spec := "digestLinear", named := ["mapsheets/digest.remainders"], apart := false, laid := [("mapsheets/digest.remainders", laid_mapsheets_digest_remainders)] }
def DigestLinearSaid : Prop := digestLinearRow.holds Tryd.pinned (OpenSpec.ofChange digestLinearSpec)

/-- ITS FALSE NEIGHBOUR: 'it returns false'. Refute it at one input. -/
def digestLinearWrong : ChangeSpec := { name := "digestLinear", fn := fun _ => fun
  | [d1, d2, d3] => { results := [.lit (.bool false)], args := [d1, d2, d3] }
  | _ => none }
def DigestLinearWrongFalsely : Prop := digestLinearRow.holds Tryd.pinned (OpenSpec.ofChange digestLinearWrong)

/-- 'mapsheetslaw03.DigestDetects': WHATEVER THE INPUT: true; the input reads as it did. -/
def digestDetectsSpec : ChangeSpec := { name := "digestDetects", fn := fun _ => fun
  | [d1, d2, d3] => { results := [.lit (.bool true)], args := [d1, d2, d3] }
  | _ => none }
def digestDetectsRow : OpenClaim := { program := "ytnlkpnpjmbpgbaadoor", sum := "de675ed597becc303504026d0bfbf12f73fb9356c7c2218879610cbf33450fe8", func := "mapsheets/mapsheetslaw03.DigestDetects", spec := "digestDetects", named := ["mapsheets/digest.remainders"], apart := false, laid := [("mapsheets/digest.remainders", laid_mapsheets_digest_remainders)] }
def DigestDetectsSaid : Prop := digestDetectsRow.holds Tryd.pinned (OpenSpec.ofChange digestDetectsSpec)

/-- ITS FALSE NEIGHBOUR: 'it returns false'. Refute it at one input. -/
def digestDetectsWrong : ChangeSpec := { name := "digestDetects", fn := fun _ => fun
  | [d1, d2, d3] => { results := [.lit (.bool false)], args := [d1, d2, d3] }
  | _ => none }
def DigestDetectsWrongFalsely : Prop := digestDetectsRow.holds Tryd.pinned (OpenSpec.ofChange digestDetectsWrong)

/- THE SECOND FORM. 'bulk': how many values and letters a reading holds, each counted each time it is reached (what is shared counts as often as it is met; a slice's spare places count too). A statement '..UptoSaid' is the law's where the arguments, and the package variables that the reading takes, are together of bulk at most 1048576: NARROWER than '..Said'. Prove '..Said' where nothing that the law and all that it calls make is longer than what came in: it says more and counts as full. Else prove '..UptoSaid'. A law counts once. -/
mutual
def uptoBulk {H : Type} : DataW H → Nat
  | .lit (.string bytes) => bytes.length + 1
  | .lit _ => 1
  | .nil => 1
  | .ptr d => uptoBulk d + 1
  | .slice elems spare => uptoBulkAll elems + uptoBulkAll spare + 1
  | .agg parts => uptoBulkAll parts + 1
  | .iface _ d => uptoBulk d + 1
  | .map entries => uptoBulkEntries entries + 1
  | .held _ => 1
def uptoBulkAll {H : Type} : List (DataW H) → Nat
  | [] => 0
  | d :: r => uptoBulk d + uptoBulkAll r
def uptoBulkEntries {H : Type} : List (Lit × DataW H) → Nat
  | [] => 0
  | x :: r => uptoBulkEntry x + uptoBulkEntries r
def uptoBulkEntry {H : Type} : Lit × DataW H → Nat
  | (.string bytes, d) => bytes.length + uptoBulk d + 1
  | (_, d) => uptoBulk d + 1
 end
def uptoSmall : (H : Type) → List (DataW H) → Bool := fun _ ds => decide (uptoBulkAll ds ≤ 1048576)
def OpenSpec.upto (s : _root_.Go.ChangeSpec) : _root_.Go.OpenSpec := { _root_.Go.OpenSpec.ofChange s with cond := some uptoSmall }

/-- 'mapsheetslaw03.DigestValues', WHERE WHAT IT READS IS OF BULK AT MOST 1048576: true; the input reads as it did. -/
def digestValuesUptoRow : OpenClaim := { program := "ytnlkpnpjmbpgbaadoor", sum := "de675ed597becc303504026d0bfbf12f73fb9356c7c2218879610cbf33450fe8", func := "mapsheets/mapsheetslaw03.DigestValues", spec := "digestValues", named := ["mapsheets/digest.remainders"], apart := false, laid := [("mapsheets/digest.remainders", laid_mapsheets_digest_remainders)], narrowed := true }
def DigestValuesUptoSaid : Prop := digestValuesUptoRow.holds Tryd.pinned (OpenSpec.upto digestValuesSpec)

/-- 'mapsheetslaw03.DigestMixes', WHERE WHAT IT READS IS OF BULK AT MOST 1048576: true; the input reads as it did. -/
def digestMixesUptoRow : OpenClaim := { program := "ytnlkpnpjmbpgbaadoor", sum := "de675ed597becc303504026d0bfbf12f73fb9356c7c2218879610cbf33450fe8", func := "mapsheets/mapsheetslaw03.DigestMixes", spec := "digestMixes", named := ["mapsheets/digest.remainders"], apart := false, laid := [("mapsheets/digest.remainders", laid_mapsheets_digest_remainders)], narrowed := true }
def DigestMixesUptoSaid : Prop := digestMixesUptoRow.holds Tryd.pinned (OpenSpec.upto digestMixesSpec)

/-- 'mapsheetslaw03.DigestHex', WHERE WHAT IT READS IS OF BULK AT MOST 1048576: true; the input reads as it did. -/
def digestHexUptoRow : OpenClaim := { program := "ytnlkpnpjmbpgbaadoor", sum := "de675ed597becc303504026d0bfbf12f73fb9356c7c2218879610cbf33450fe8", func := "mapsheets/mapsheetslaw03.DigestHex", spec := "digestHex", named := ["mapsheets/digest.remainders"], apart := false, laid := [("mapsheets/digest.remainders", laid_mapsheets_digest_remainders)], narrowed := true }
def DigestHexUptoSaid : Prop := digestHexUptoRow.holds Tryd.pinned (OpenSpec.upto digestHexSpec)

/-- 'mapsheetslaw03.DigestSeals', WHERE WHAT IT READS IS OF BULK AT MOST 1048576: true; the input reads as it did. -/
def digestSealsUptoRow : OpenClaim := { program := "ytnlkpnpjmbpgbaadoor", sum := "de675ed597becc303504026d0bfbf12f73fb9356c7c2218879610cbf33450fe8", func := "mapsheets/mapsheetslaw03.DigestSeals", spec := "digestSeals", named := ["mapsheets/digest.remainders"], apart := false, laid := [("mapsheets/digest.remainders", laid_mapsheets_digest_remainders)], narrowed := true }
def DigestSealsUptoSaid : Prop := digestSealsUptoRow.holds Tryd.pinned (OpenSpec.upto digestSealsSpec)

/-- 'mapsheetslaw03.DigestOpens', WHERE WHAT IT READS IS OF BULK AT MOST 1048576: true; the input reads as it did. -/
def digestOpensUptoRow : OpenClaim := { program := "ytnlkpnpjmbpgbaadoor", sum := "de675ed597becc303504026d0bfbf12f73fb9356c7c2218879610cbf33450fe8", func := "mapsheets/mapsheetslaw03.DigestOpens", spec := "digestOpens", named := ["mapsheets/digest.remainders"], apart := false, laid := [("mapsheets/digest.remainders", laid_mapsheets_digest_remainders)], narrowed := true }
def DigestOpensUptoSaid : Prop := digestOpensUptoRow.holds Tryd.pinned (OpenSpec.upto digestOpensSpec)

/-- 'mapsheetslaw03.DigestLinear', WHERE WHAT IT READS IS OF BULK AT MOST 1048576: true; the input reads as it did. -/
def digestLinearUptoRow : OpenClaim := { program := "ytnlkpnpjmbpgbaadoor", sum := "de675ed597becc303504026d0bfbf12f73fb9356c7c2218879610cbf33450fe8", func := "mapsheets/mapsheetslaw03.DigestLinear", spec := "digestLinear", named := ["mapsheets/digest.remainders"], apart := false, laid := [("mapsheets/digest.remainders", laid_mapsheets_digest_remainders)], narrowed := true }
def DigestLinearUptoSaid : Prop := digestLinearUptoRow.holds Tryd.pinned (OpenSpec.upto digestLinearSpec)

/-- 'mapsheetslaw03.DigestDetects', WHERE WHAT IT READS IS OF BULK AT MOST 1048576: true; the input reads as it did. -/
def digestDetectsUptoRow : OpenClaim := { program := "ytnlkpnpjmbpgbaadoor", sum := "de675ed597becc303504026d0bfbf12f73fb9356c7c2218879610cbf33450fe8", func := "mapsheets/mapsheetslaw03.DigestDetects", spec := "digestDetects", named := ["mapsheets/digest.remainders"], apart := false, laid := [("mapsheets/digest.remainders", laid_mapsheets_digest_remainders)], narrowed := true }
def DigestDetectsUptoSaid : Prop := digestDetectsUptoRow.holds Tryd.pinned (OpenSpec.upto digestDetectsSpec)

end Rows
end Go.Proofs.YtnlkpnpjmbpgbaaDoor
