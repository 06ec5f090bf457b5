/-
  NARROWER THAN 'FOR EVERY INPUT', by the rows' own cells (each row's printed sentence says how): GlyphDecodes: laid · GlyphEncodes: laid · GlyphBack: laid · GlyphTables: laid · GlyphFolds: laid · GlyphWidths: laid · GlyphOrders: laid · GlyphMoves: laid · GlyphJoins: laid.
  DERIVED. THE GIVEN ROWS OF THIS SEAT. 9 by the template 'for every input the law returns true; each argument reads behind the call as it read before'; 0 by the template 'total and deterministic' (their statements: YtajcalmjdfhedaaDoorTotals.lean).
  GIVEN WITH THE SEED: the statements are not yours to turn. If you find one false, say at which input.
  Laid BY PROGRAM, IN A SANDBOX (cutbox-rows.mjs): the forced cells as the released guide's own fill.sh prints them over the translation bfe7bcfd1ac9dd0e… (all of the seat's roots in one cut). By AI agents, Wed Nov 11 2026. No macro, syntax, notation, axiom, sorry.
-/
import Derived.Test.YtajcalmjdfhedaaDoorChecked
import GoSem.Claim
import GoSem.ClaimJoined
import GoSem.ClaimMapViews
import Derived.JoinedTies
import Derived.KernelRfl
namespace Go.Proofs.YtajcalmjdfhedaaDoor
/- THE CELL 'sum', in the pinned program and in every row, IS THE sha256 OF THE DUMP (.gsa) THAT YtajcalmjdfhedaaDoorProg.lean LOADS. Nothing in Lean hashes anything: it is a label: what it is worth is what the hold of that sum in a sandbox is worth. -/
noncomputable def Tryd.pinned : Pinned := { name := "ytajcalmjdfhedaadoor", sum := "bfe7bcfd1ac9dd0ea5653b55844974c8ba0acbb124a0dd3235bafb2ba7f9c69b", checked := Tryd.checked }
namespace Rows
def none {H : Type} : Left H := { results := [], args := [] }

/- WHAT THE LISTED PACKAGE-LEVEL VARIABLES READ AS WHEN THE CALL BEGINS. Each datum BY PROGRAM (the guide's laid-datum.mjs) off the statement by which the dump's own 'gosem.cut.vars' lays the variable. In a bare row this is a premise. The card (YtajcalmjdfhedaaDoorCards.lean) ties it to the program's text. -/
def laid_mapsheets_glyph_scripts {H : Type} : DataW H := .agg [.agg [.lit (.int .i32 32), .lit (.int .i32 32), .lit (.int .i64 0)], .agg [.lit (.int .i32 39), .lit (.int .i32 41), .lit (.int .i64 0)], .agg [.lit (.int .i32 45), .lit (.int .i32 46), .lit (.int .i64 0)], .agg [.lit (.int .i32 48), .lit (.int .i32 57), .lit (.int .i64 0)], .agg [.lit (.int .i32 65), .lit (.int .i32 90), .lit (.int .i64 1)], .agg [.lit (.int .i32 97), .lit (.int .i32 122), .lit (.int .i64 1)], .agg [.lit (.int .i32 192), .lit (.int .i32 214), .lit (.int .i64 1)], .agg [.lit (.int .i32 216), .lit (.int .i32 246), .lit (.int .i64 1)], .agg [.lit (.int .i32 248), .lit (.int .i32 591), .lit (.int .i64 1)], .agg [.lit (.int .i32 880), .lit (.int .i32 1023), .lit (.int .i64 2)], .agg [.lit (.int .i32 1024), .lit (.int .i32 1279), .lit (.int .i64 3)], .agg [.lit (.int .i32 1488), .lit (.int .i32 1514), .lit (.int .i64 4)], .agg [.lit (.int .i32 19968), .lit (.int .i32 40959), .lit (.int .i64 5)]]
def laid_mapsheets_glyph_folds {H : Type} : DataW H := .agg [.agg [.lit (.int .i32 65), .lit (.int .i32 90), .lit (.int .i32 1), .lit (.int .i32 32)], .agg [.lit (.int .i32 192), .lit (.int .i32 214), .lit (.int .i32 1), .lit (.int .i32 32)], .agg [.lit (.int .i32 216), .lit (.int .i32 222), .lit (.int .i32 1), .lit (.int .i32 32)], .agg [.lit (.int .i32 913), .lit (.int .i32 937), .lit (.int .i32 1), .lit (.int .i32 32)], .agg [.lit (.int .i32 1040), .lit (.int .i32 1071), .lit (.int .i32 1), .lit (.int .i32 32)], .agg [.lit (.int .i32 1024), .lit (.int .i32 1039), .lit (.int .i32 1), .lit (.int .i32 80)], .agg [.lit (.int .i32 256), .lit (.int .i32 310), .lit (.int .i32 2), .lit (.int .i32 1)], .agg [.lit (.int .i32 330), .lit (.int .i32 374), .lit (.int .i32 2), .lit (.int .i32 1)], .agg [.lit (.int .i32 313), .lit (.int .i32 327), .lit (.int .i32 2), .lit (.int .i32 1)], .agg [.lit (.int .i32 377), .lit (.int .i32 381), .lit (.int .i32 2), .lit (.int .i32 1)], .agg [.lit (.int .i32 376), .lit (.int .i32 376), .lit (.int .i32 1), .lit (.int .i32 (-121))]]

/-- 'mapsheetslaw06.GlyphDecodes': WHATEVER THE INPUT: true; the input reads as it did. -/
def glyphDecodesSpec : ChangeSpec := { name := "glyphDecodes", fn := fun _ => fun
  | [d] => { results := [.lit (.bool true)], args := [d] }
  | _ => none }
def glyphDecodesRow : OpenClaim := { program := "ytajcalmjdfhedaadoor", sum := "bfe7bcfd1ac9dd0ea5653b55844974c8ba0acbb124a0dd3235bafb2ba7f9c69b", func := "mapsheets/mapsheetslaw06.GlyphDecodes", spec := "glyphDecodes", inPlace := ["internal/abi.NoEscape"], unfollowed := true, recurses := true, named := ["mapsheets/glyph.scripts", "mapsheets/glyph.folds"], apart := false, laid := [("mapsheets/glyph.scripts", laid_mapsheets_glyph_scripts), ("mapsheets/glyph.folds", laid_mapsheets_glyph_folds)] }
def GlyphDecodesSaid : Prop := glyphDecodesRow.holds Tryd.pinned (OpenSpec.ofChange glyphDecodesSpec)

/-- ITS FALSE NEIGHBOUR: 'it returns false'. Refute it at one input. -/
def glyphDecodesWrong : ChangeSpec := { name := "glyphDecodes", fn := fun _ => fun
  | [d] => { results := [.lit (.bool false)], args := [d] }
  | _ => none }
def GlyphDecodesWrongFalsely : Prop := glyphDecodesRow.holds Tryd.pinned (OpenSpec.ofChange glyphDecodesWrong)

/-- 'mapsheetslaw06.GlyphEncodes': WHATEVER THE INPUT: true; the input reads as it did. -/
def glyphEncodesSpec : ChangeSpec := { name := "glyphEncodes", fn := fun _ => fun
  | [d] => { results := [.lit (.bool true)], args := [d] }
  | _ => none }
def glyphEncodesRow : OpenClaim := { program := "ytajcalmjdfhedaadoor", sum := "bfe7bcfd1ac9dd0ea5653b55844974c8ba0acbb124a0dd3235bafb2ba7f9c69b", func := "mapsheets/mapsheetslaw06.GlyphEncodes", spec := "glyphEncodes", inPlace := ["internal/abi.NoEscape"], unfollowed := true, recurses := true, named := ["mapsheets/glyph.scripts", "mapsheets/glyph.folds"], apart := false, laid := [("mapsheets/glyph.scripts", laid_mapsheets_glyph_scripts), ("mapsheets/glyph.folds", laid_mapsheets_glyph_folds)] }
def GlyphEncodesSaid : Prop := glyphEncodesRow.holds Tryd.pinned (OpenSpec.ofChange glyphEncodesSpec)

/-- ITS FALSE NEIGHBOUR: 'it returns false'. Refute it at one input. -/
def glyphEncodesWrong : ChangeSpec := { name := "glyphEncodes", fn := fun _ => fun
  | [d] => { results := [.lit (.bool false)], args := [d] }
  | _ => none }
def GlyphEncodesWrongFalsely : Prop := glyphEncodesRow.holds Tryd.pinned (OpenSpec.ofChange glyphEncodesWrong)

/-- 'mapsheetslaw06.GlyphBack': WHATEVER THE INPUT: true; the input reads as it did. -/
def glyphBackSpec : ChangeSpec := { name := "glyphBack", fn := fun _ => fun
  | [d1, d2] => { results := [.lit (.bool true)], args := [d1, d2] }
  | _ => none }
def glyphBackRow : OpenClaim := { program := "ytajcalmjdfhedaadoor", sum := "bfe7bcfd1ac9dd0ea5653b55844974c8ba0acbb124a0dd3235bafb2ba7f9c69b", func := "mapsheets/mapsheetslaw06.GlyphBack", spec := "glyphBack", inPlace := ["internal/abi.NoEscape"], unfollowed := true, recurses := true, named := ["mapsheets/glyph.scripts", "mapsheets/glyph.folds"], apart := false, laid := [("mapsheets/glyph.scripts", laid_mapsheets_glyph_scripts), ("mapsheets/glyph.folds", laid_mapsheets_glyph_folds)] }
def GlyphBackSaid : Prop := glyphBackRow.holds Tryd.pinned (OpenSpec.ofChange glyphBackSpec)

/-- ITS FALSE NEIGHBOUR: 'it returns false'. Refute it at one input. -/
def glyphBackWrong : ChangeSpec := { name := "glyphBack", fn := fun _ => fun
  | [d1, d2] => { results := [.lit (.bool false)], args := [d1, d2] }
  | _ => none }
def GlyphBackWrongFalsely : Prop := glyphBackRow.holds Tryd.pinned (OpenSpec.ofChange glyphBackWrong)

/-- 'mapsheetslaw06.GlyphTables': WHATEVER THE INPUT: true; the input reads as it did. -/
def glyphTablesSpec : ChangeSpec := { name := "glyphTables", fn := fun _ => fun
  | [d1, d2] => { results := [.lit (.bool true)], args := [d1, d2] }
  | _ => none }
def glyphTablesRow : OpenClaim := { program := "ytajcalmjdfhedaadoor", sum := "bfe7bcfd1ac9dd0ea5653b55844974c8ba0acbb124a0dd3235bafb2ba7f9c69b", func := "mapsheets/mapsheetslaw06.GlyphTables", spec := "glyphTables", inPlace := ["internal/abi.NoEscape"], unfollowed := true, recurses := true, named := ["mapsheets/glyph.scripts", "mapsheets/glyph.folds"], apart := false, laid := [("mapsheets/glyph.scripts", laid_mapsheets_glyph_scripts), ("mapsheets/glyph.folds", laid_mapsheets_glyph_folds)] }
def GlyphTablesSaid : Prop := glyphTablesRow.holds Tryd.pinned (OpenSpec.ofChange glyphTablesSpec)

/-- ITS FALSE NEIGHBOUR: 'it returns false'. Refute it at one input. -/
def glyphTablesWrong : ChangeSpec := { name := "glyphTables", fn := fun _ => fun
  | [d1, d2] => { results := [.lit (.bool false)], args := [d1, d2] }
  | _ => none }
def GlyphTablesWrongFalsely : Prop := glyphTablesRow.holds Tryd.pinned (OpenSpec.ofChange glyphTablesWrong)

/-- 'mapsheetslaw06.GlyphFolds': WHATEVER THE INPUT: true; the input reads as it did. -/
def glyphFoldsSpec : ChangeSpec := { name := "glyphFolds", fn := fun _ => fun
  | [d] => { results := [.lit (.bool true)], args := [d] }
  | _ => none }
def glyphFoldsRow : OpenClaim := { program := "ytajcalmjdfhedaadoor", sum := "bfe7bcfd1ac9dd0ea5653b55844974c8ba0acbb124a0dd3235bafb2ba7f9c69b", func := "mapsheets/mapsheetslaw06.GlyphFolds", spec := "glyphFolds", inPlace := ["internal/abi.NoEscape"], unfollowed := true, recurses := true, named := ["mapsheets/glyph.folds", "mapsheets/glyph.scripts"], apart := false, laid := [("mapsheets/glyph.scripts", laid_mapsheets_glyph_scripts), ("mapsheets/glyph.folds", laid_mapsheets_glyph_folds)] }
def GlyphFoldsSaid : Prop := glyphFoldsRow.holds Tryd.pinned (OpenSpec.ofChange glyphFoldsSpec)

/-- ITS FALSE NEIGHBOUR: 'it returns false'. Refute it at one input. -/
def glyphFoldsWrong : ChangeSpec := { name := "glyphFolds", fn := fun _ => fun
  | [d] => { results := [.lit (.bool false)], args := [d] }
  | _ => none }
def GlyphFoldsWrongFalsely : Prop := glyphFoldsRow.holds Tryd.pinned (OpenSpec.ofChange glyphFoldsWrong)

/-- 'mapsheetslaw06.GlyphWidths': WHATEVER THE INPUT: true; the input reads as it did. -/
def glyphWidthsSpec : ChangeSpec := { name := "glyphWidths", fn := fun _ => fun
  | [d1, d2] => { results := [.lit (.bool true)], args := [d1, d2] }
  | _ => none }
def glyphWidthsRow : OpenClaim := { program := "ytajcalmjdfhedaadoor", sum := "bfe7bcfd1ac9dd0ea5653b55844974c8ba0acbb124a0dd3235bafb2ba7f9c69b", func := "mapsheets/mapsheetslaw06.GlyphWidths", spec := "glyphWidths", inPlace := ["internal/abi.NoEscape"], unfollowed := true, recurses := true, named := ["mapsheets/glyph.scripts", "mapsheets/glyph.folds"], apart := false, laid := [("mapsheets/glyph.scripts", laid_mapsheets_glyph_scripts), ("mapsheets/glyph.folds", laid_mapsheets_glyph_folds)] }
def GlyphWidthsSaid : Prop := glyphWidthsRow.holds Tryd.pinned (OpenSpec.ofChange glyphWidthsSpec)

/-- ITS FALSE NEIGHBOUR: 'it returns false'. Refute it at one input. -/
def glyphWidthsWrong : ChangeSpec := { name := "glyphWidths", fn := fun _ => fun
  | [d1, d2] => { results := [.lit (.bool false)], args := [d1, d2] }
  | _ => none }
def GlyphWidthsWrongFalsely : Prop := glyphWidthsRow.holds Tryd.pinned (OpenSpec.ofChange glyphWidthsWrong)

/-- 'mapsheetslaw06.GlyphOrders': WHATEVER THE INPUT: true; the input reads as it did. -/
def glyphOrdersSpec : ChangeSpec := { name := "glyphOrders", fn := fun _ => fun
  | [d] => { results := [.lit (.bool true)], args := [d] }
  | _ => none }
def glyphOrdersRow : OpenClaim := { program := "ytajcalmjdfhedaadoor", sum := "bfe7bcfd1ac9dd0ea5653b55844974c8ba0acbb124a0dd3235bafb2ba7f9c69b", func := "mapsheets/mapsheetslaw06.GlyphOrders", spec := "glyphOrders", inPlace := ["internal/abi.NoEscape"], unfollowed := true, recurses := true, named := ["mapsheets/glyph.scripts", "mapsheets/glyph.folds"], apart := false, laid := [("mapsheets/glyph.scripts", laid_mapsheets_glyph_scripts), ("mapsheets/glyph.folds", laid_mapsheets_glyph_folds)] }
def GlyphOrdersSaid : Prop := glyphOrdersRow.holds Tryd.pinned (OpenSpec.ofChange glyphOrdersSpec)

/-- ITS FALSE NEIGHBOUR: 'it returns false'. Refute it at one input. -/
def glyphOrdersWrong : ChangeSpec := { name := "glyphOrders", fn := fun _ => fun
  | [d] => { results := [.lit (.bool false)], args := [d] }
  | _ => none }
def GlyphOrdersWrongFalsely : Prop := glyphOrdersRow.holds Tryd.pinned (OpenSpec.ofChange glyphOrdersWrong)

/-- 'mapsheetslaw06.GlyphMoves': WHATEVER THE INPUT: true; the input reads as it did. -/
def glyphMovesSpec : ChangeSpec := { name := "glyphMoves", fn := fun _ => fun
  | [d] => { results := [.lit (.bool true)], args := [d] }
  | _ => none }
def glyphMovesRow : OpenClaim := { program := "ytajcalmjdfhedaadoor", sum := "bfe7bcfd1ac9dd0ea5653b55844974c8ba0acbb124a0dd3235bafb2ba7f9c69b", func := "mapsheets/mapsheetslaw06.GlyphMoves", spec := "glyphMoves", inPlace := ["internal/abi.NoEscape"], unfollowed := true, recurses := true, named := ["mapsheets/glyph.scripts", "mapsheets/glyph.folds"], apart := false, laid := [("mapsheets/glyph.scripts", laid_mapsheets_glyph_scripts), ("mapsheets/glyph.folds", laid_mapsheets_glyph_folds)] }
def GlyphMovesSaid : Prop := glyphMovesRow.holds Tryd.pinned (OpenSpec.ofChange glyphMovesSpec)

/-- ITS FALSE NEIGHBOUR: 'it returns false'. Refute it at one input. -/
def glyphMovesWrong : ChangeSpec := { name := "glyphMoves", fn := fun _ => fun
  | [d] => { results := [.lit (.bool false)], args := [d] }
  | _ => none }
def GlyphMovesWrongFalsely : Prop := glyphMovesRow.holds Tryd.pinned (OpenSpec.ofChange glyphMovesWrong)

/-- 'mapsheetslaw06.GlyphJoins': WHATEVER THE INPUT: true; the input reads as it did. -/
def glyphJoinsSpec : ChangeSpec := { name := "glyphJoins", fn := fun _ => fun
  | [d1, d2] => { results := [.lit (.bool true)], args := [d1, d2] }
  | _ => none }
def glyphJoinsRow : OpenClaim := { program := "ytajcalmjdfhedaadoor", sum := "bfe7bcfd1ac9dd0ea5653b55844974c8ba0acbb124a0dd3235bafb2ba7f9c69b", func := "mapsheets/mapsheetslaw06.GlyphJoins", spec := "glyphJoins", inPlace := ["internal/abi.NoEscape"], unfollowed := true, recurses := true, named := ["mapsheets/glyph.scripts", "mapsheets/glyph.folds"], apart := false, laid := [("mapsheets/glyph.scripts", laid_mapsheets_glyph_scripts), ("mapsheets/glyph.folds", laid_mapsheets_glyph_folds)] }
def GlyphJoinsSaid : Prop := glyphJoinsRow.holds Tryd.pinned (OpenSpec.ofChange glyphJoinsSpec)

/-- ITS FALSE NEIGHBOUR: 'it returns false'. Refute it at one input. -/
def glyphJoinsWrong : ChangeSpec := { name := "glyphJoins", fn := fun _ => fun
  | [d1, d2] => { results := [.lit (.bool false)], args := [d1, d2] }
  | _ => none }
def GlyphJoinsWrongFalsely : Prop := glyphJoinsRow.holds Tryd.pinned (OpenSpec.ofChange glyphJoinsWrong)

/- THE SECOND FORM. 'bulk': how many values and letters a reading holds, each counted each time it is reached (what is shared counts as often as it is met; a slice's spare places count too). A statement '..UptoSaid' is the law's where the arguments, and the package variables that the reading takes, are together of bulk at most 1048576: NARROWER than '..Said'. Prove '..Said' where nothing that the law and all that it calls make is longer than what came in: it says more and counts as full. Else prove '..UptoSaid'. A law counts once. -/
mutual
def uptoBulk {H : Type} : DataW H → Nat
  | .lit (.string bytes) => bytes.length + 1
  | .lit _ => 1
  | .nil => 1
  | .ptr d => uptoBulk d + 1
  | .slice elems spare => uptoBulkAll elems + uptoBulkAll spare + 1
  | .agg parts => uptoBulkAll parts + 1
  | .iface _ d => uptoBulk d + 1
  | .map entries => uptoBulkEntries entries + 1
  | .held _ => 1
def uptoBulkAll {H : Type} : List (DataW H) → Nat
  | [] => 0
  | d :: r => uptoBulk d + uptoBulkAll r
def uptoBulkEntries {H : Type} : List (Lit × DataW H) → Nat
  | [] => 0
  | x :: r => uptoBulkEntry x + uptoBulkEntries r
def uptoBulkEntry {H : Type} : Lit × DataW H → Nat
  | (.string bytes, d) => bytes.length + uptoBulk d + 1
  | (_, d) => uptoBulk d + 1
 end
def uptoSmall : (H : Type) → List (DataW H) → Bool := fun _ ds => decide (uptoBulkAll ds ≤ 1048576)
def OpenSpec.upto (s : _root_.Go.ChangeSpec) : _root_.Go.OpenSpec := { _root_.Go.OpenSpec.ofChange s with cond := some uptoSmall }

/-- 'mapsheetslaw06.GlyphDecodes', WHERE WHAT IT READS IS OF BULK AT MOST 1048576: true; the input reads as it did. -/
def glyphDecodesUptoRow : OpenClaim := { program := "ytajcalmjdfhedaadoor", sum := "bfe7bcfd1ac9dd0ea5653b55844974c8ba0acbb124a0dd3235bafb2ba7f9c69b", func := "mapsheets/mapsheetslaw06.GlyphDecodes", spec := "glyphDecodes", inPlace := ["internal/abi.NoEscape"], unfollowed := true, recurses := true, named := ["mapsheets/glyph.scripts", "mapsheets/glyph.folds"], apart := false, laid := [("mapsheets/glyph.scripts", laid_mapsheets_glyph_scripts), ("mapsheets/glyph.folds", laid_mapsheets_glyph_folds)], narrowed := true }
def GlyphDecodesUptoSaid : Prop := glyphDecodesUptoRow.holds Tryd.pinned (OpenSpec.upto glyphDecodesSpec)

/-- 'mapsheetslaw06.GlyphEncodes', WHERE WHAT IT READS IS OF BULK AT MOST 1048576: true; the input reads as it did. -/
def glyphEncodesUptoRow : OpenClaim := { program := "ytajcalmjdfhedaadoor", sum := "bfe7bcfd1ac9dd0ea5653b55844974c8ba0acbb124a0dd3235bafb2ba7f9c69b", func := "mapsheets/mapsheetslaw06.GlyphEncodes", spec := "glyphEncodes", inPlace := ["internal/abi.NoEscape"], unfollowed := true, recurses := true, named := ["mapsheets/glyph.scripts", "mapsheets/glyph.folds"], apart := false, laid := [("mapsheets/glyph.scripts", laid_mapsheets_glyph_scripts), ("mapsheets/glyph.folds", laid_mapsheets_glyph_folds)], narrowed := true }
def GlyphEncodesUptoSaid : Prop := glyphEncodesUptoRow.holds Tryd.pinned (OpenSpec.upto glyphEncodesSpec)

/-- 'mapsheetslaw06.GlyphBack', WHERE WHAT IT READS IS OF BULK AT MOST 1048576: true; the input reads as it did. -/
def glyphBackUptoRow : OpenClaim := { program := "ytajcalmjdfhedaadoor", sum := "bfe7bcfd1ac9dd0ea5653b55844974c8ba0acbb124a0dd3235bafb2ba7f9c69b", func := "mapsheets/mapsheetslaw06.GlyphBack", spec := "glyphBack", inPlace := ["internal/abi.NoEscape"], unfollowed := true, recurses := true, named := ["mapsheets/glyph.scripts", "mapsheets/glyph.folds"], apart := false, laid := [("mapsheets/glyph.scripts", laid_mapsheets_glyph_scripts), ("mapsheets/glyph.folds", laid_mapsheets_glyph_folds)], narrowed := true }
def GlyphBackUptoSaid : Prop := glyphBackUptoRow.holds Tryd.pinned (OpenSpec.upto glyphBackSpec)

/-- 'mapsheetslaw06.GlyphTables', WHERE WHAT IT READS IS OF BULK AT MOST 1048576: true; the input reads as it did. -/
def glyphTablesUptoRow : OpenClaim := { program := "ytajcalmjdfhedaadoor", sum := "bfe7bcfd1ac9dd0ea5653b55844974c8ba0acbb124a0dd3235bafb2ba7f9c69b", func := "mapsheets/mapsheetslaw06.GlyphTables", spec := "glyphTables", inPlace := ["internal/abi.NoEscape"], unfollowed := true, recurses := true, named := ["mapsheets/glyph.scripts", "mapsheets/glyph.folds"], apart := false, laid := [("mapsheets/glyph.scripts", laid_mapsheets_glyph_scripts), ("mapsheets/glyph.folds", laid_mapsheets_glyph_folds)], narrowed := true }
def GlyphTablesUptoSaid : Prop := glyphTablesUptoRow.holds Tryd.pinned (OpenSpec.upto glyphTablesSpec)

/-- 'mapsheetslaw06.GlyphFolds', WHERE WHAT IT READS IS OF BULK AT MOST 1048576: true; the input reads as it did. -/
def glyphFoldsUptoRow : OpenClaim := { program := "ytajcalmjdfhedaadoor", sum := "bfe7bcfd1ac9dd0ea5653b55844974c8ba0acbb124a0dd3235bafb2ba7f9c69b", func := "mapsheets/mapsheetslaw06.GlyphFolds", spec := "glyphFolds", inPlace := ["internal/abi.NoEscape"], unfollowed := true, recurses := true, named := ["mapsheets/glyph.folds", "mapsheets/glyph.scripts"], apart := false, laid := [("mapsheets/glyph.scripts", laid_mapsheets_glyph_scripts), ("mapsheets/glyph.folds", laid_mapsheets_glyph_folds)], narrowed := true }
def GlyphFoldsUptoSaid : Prop := glyphFoldsUptoRow.holds Tryd.pinned (OpenSpec.upto glyphFoldsSpec)

/-- 'mapsheetslaw06.GlyphWidths', WHERE WHAT IT READS IS OF BULK AT MOST 1048576: true; the input reads as it did. -/
def glyphWidthsUptoRow : OpenClaim := { program := "ytajcalmjdfhedaadoor", sum := "bfe7bcfd1ac9dd0ea5653b55844974c8ba0acbb124a0dd3235bafb2ba7f9c69b", func := "mapsheets/mapsheetslaw06.GlyphWidths", spec := "glyphWidths", inPlace := ["internal/abi.NoEscape"], unfollowed := true, recurses := true, named := ["mapsheets/glyph.scripts", "mapsheets/glyph.folds"], apart := false, laid := [("mapsheets/glyph.scripts", laid_mapsheets_glyph_scripts), ("mapsheets/glyph.folds", laid_mapsheets_glyph_folds)], narrowed := true }
def GlyphWidthsUptoSaid : Prop := glyphWidthsUptoRow.holds Tryd.pinned (OpenSpec.upto glyphWidthsSpec)

/-- 'mapsheetslaw06.GlyphOrders', WHERE WHAT IT READS IS OF BULK AT MOST 1048576: true; the input reads as it did. -/
def glyphOrdersUptoRow : OpenClaim := { program := "ytajcalmjdfhedaadoor", sum := "bfe7bcfd1ac9dd0ea5653b55844974c8ba0acbb124a0dd3235bafb2ba7f9c69b", func := "mapsheets/mapsheetslaw06.GlyphOrders", spec := "glyphOrders", inPlace := ["internal/abi.NoEscape"], unfollowed := true, recurses := true, named := ["mapsheets/glyph.scripts", "mapsheets/glyph.folds"], apart := false, laid := [("mapsheets/glyph.scripts", laid_mapsheets_glyph_scripts), ("mapsheets/glyph.folds", laid_mapsheets_glyph_folds)], narrowed := true }
def GlyphOrdersUptoSaid : Prop := glyphOrdersUptoRow.holds Tryd.pinned (OpenSpec.upto glyphOrdersSpec)

/-- 'mapsheetslaw06.GlyphMoves', WHERE WHAT IT READS IS OF BULK AT MOST 1048576: true; the input reads as it did. -/
def glyphMovesUptoRow : OpenClaim := { program := "ytajcalmjdfhedaadoor", sum := "bfe7bcfd1ac9dd0ea5653b55844974c8ba0acbb124a0dd3235bafb2ba7f9c69b", func := "mapsheets/mapsheetslaw06.GlyphMoves", spec := "glyphMoves", inPlace := ["internal/abi.NoEscape"], unfollowed := true, recurses := true, named := ["mapsheets/glyph.scripts", "mapsheets/glyph.folds"], apart := false, laid := [("mapsheets/glyph.scripts", laid_mapsheets_glyph_scripts), ("mapsheets/glyph.folds", laid_mapsheets_glyph_folds)], narrowed := true }
def GlyphMovesUptoSaid : Prop := glyphMovesUptoRow.holds Tryd.pinned (OpenSpec.upto glyphMovesSpec)

/-- 'mapsheetslaw06.GlyphJoins', WHERE WHAT IT READS IS OF BULK AT MOST 1048576: true; the input reads as it did. -/
def glyphJoinsUptoRow : OpenClaim := { program := "ytajcalmjdfhedaadoor", sum := "bfe7bcfd1ac9dd0ea5653b55844974c8ba0acbb124a0dd3235bafb2ba7f9c69b", func := "mapsheets/mapsheetslaw06.GlyphJoins", spec := "glyphJoins", inPlace := ["internal/abi.NoEscape"], unfollowed := true, recurses := true, named := ["mapsheets/glyph.scripts", "mapsheets/glyph.folds"], apart := false, laid := [("mapsheets/glyph.scripts", laid_mapsheets_glyph_scripts), ("mapsheets/glyph.folds", laid_mapsheets_glyph_folds)], narrowed := true }
def GlyphJoinsUptoSaid : Prop := glyphJoinsUptoRow.holds Tryd.pinned (OpenSpec.upto glyphJoinsSpec)

end Rows
end Go.Proofs.YtajcalmjdfhedaaDoor
