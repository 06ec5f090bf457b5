/-
  NARROWER THAN 'FOR EVERY INPUT', by the rows' own cells (each row's printed sentence says how): NameChecks: laid · NameCompares: laid · NameOrders: laid · NameRuns: laid · NameWidths: laid · NameFolds: laid · NameSpells: laid.
  DERIVED. THE GIVEN ROWS OF THIS SEAT. 7 by the template 'for every input the law returns true; each argument reads behind the call as it read before'; 0 by the template 'total and deterministic' (their statements: YtjbkpiimjkekgaaDoorTotals.lean).
  GIVEN WITH THE SEED: the statements are not yours to turn. If you find one false, say at which input.
  Laid BY PROGRAM, IN A SANDBOX (cutbox-rows.mjs): the forced cells as the released guide's own fill.sh prints them over the translation 8405170067e92573… (all of the seat's roots in one cut). By AI agents, Wed Nov 11 2026. No macro, syntax, notation, axiom, sorry.
-/
import Derived.Test.YtjbkpiimjkekgaaDoorChecked
import GoSem.PinnedTables
import GoSem.Claim
import GoSem.ClaimJoined
import GoSem.ClaimMapViews
import Derived.JoinedTies
import Derived.KernelRfl
namespace Go.Proofs.YtjbkpiimjkekgaaDoor
/- THE CELL 'sum', in the pinned program and in every row, IS THE sha256 OF THE DUMP (.gsa) THAT YtjbkpiimjkekgaaDoorProg.lean LOADS. Nothing in Lean hashes anything: it is a label: what it is worth is what the hold of that sum in a sandbox is worth. -/
noncomputable def Tryd.pinned : Pinned := { name := "ytjbkpiimjkekgaadoor", sum := "8405170067e92573e4ee0617a0b86faeed046d9cebd94feabaa5b6cbb40b8080", checked := Tryd.checked }
namespace Rows
def none {H : Type} : Left H := { results := [], args := [] }

/- WHAT THE LISTED PACKAGE-LEVEL VARIABLES READ AS WHEN THE CALL BEGINS. Each datum BY PROGRAM (the guide's laid-datum.mjs) off the statement by which the dump's own 'gosem.cut.vars' lays the variable. In a bare row this is a premise. The card (YtjbkpiimjkekgaaDoorCards.lean) ties it to the program's text. -/
def laid_unicode_utf8_acceptRanges {H : Type} : DataW H := .agg [.agg [.lit (.int .u8 128), .lit (.int .u8 191)], .agg [.lit (.int .u8 160), .lit (.int .u8 191)], .agg [.lit (.int .u8 128), .lit (.int .u8 159)], .agg [.lit (.int .u8 144), .lit (.int .u8 191)], .agg [.lit (.int .u8 128), .lit (.int .u8 143)], .agg [.lit (.int .u8 0), .lit (.int .u8 0)], .agg [.lit (.int .u8 0), .lit (.int .u8 0)], .agg [.lit (.int .u8 0), .lit (.int .u8 0)], .agg [.lit (.int .u8 0), .lit (.int .u8 0)], .agg [.lit (.int .u8 0), .lit (.int .u8 0)], .agg [.lit (.int .u8 0), .lit (.int .u8 0)], .agg [.lit (.int .u8 0), .lit (.int .u8 0)], .agg [.lit (.int .u8 0), .lit (.int .u8 0)], .agg [.lit (.int .u8 0), .lit (.int .u8 0)], .agg [.lit (.int .u8 0), .lit (.int .u8 0)], .agg [.lit (.int .u8 0), .lit (.int .u8 0)]]
def laid_mapsheets_glyph_scripts {H : Type} : DataW H := .agg [.agg [.lit (.int .i32 32), .lit (.int .i32 32), .lit (.int .i64 0)], .agg [.lit (.int .i32 39), .lit (.int .i32 41), .lit (.int .i64 0)], .agg [.lit (.int .i32 45), .lit (.int .i32 46), .lit (.int .i64 0)], .agg [.lit (.int .i32 48), .lit (.int .i32 57), .lit (.int .i64 0)], .agg [.lit (.int .i32 65), .lit (.int .i32 90), .lit (.int .i64 1)], .agg [.lit (.int .i32 97), .lit (.int .i32 122), .lit (.int .i64 1)], .agg [.lit (.int .i32 192), .lit (.int .i32 214), .lit (.int .i64 1)], .agg [.lit (.int .i32 216), .lit (.int .i32 246), .lit (.int .i64 1)], .agg [.lit (.int .i32 248), .lit (.int .i32 591), .lit (.int .i64 1)], .agg [.lit (.int .i32 880), .lit (.int .i32 1023), .lit (.int .i64 2)], .agg [.lit (.int .i32 1024), .lit (.int .i32 1279), .lit (.int .i64 3)], .agg [.lit (.int .i32 1488), .lit (.int .i32 1514), .lit (.int .i64 4)], .agg [.lit (.int .i32 19968), .lit (.int .i32 40959), .lit (.int .i64 5)]]
def laid_mapsheets_glyph_folds {H : Type} : DataW H := .agg [.agg [.lit (.int .i32 65), .lit (.int .i32 90), .lit (.int .i32 1), .lit (.int .i32 32)], .agg [.lit (.int .i32 192), .lit (.int .i32 214), .lit (.int .i32 1), .lit (.int .i32 32)], .agg [.lit (.int .i32 216), .lit (.int .i32 222), .lit (.int .i32 1), .lit (.int .i32 32)], .agg [.lit (.int .i32 913), .lit (.int .i32 937), .lit (.int .i32 1), .lit (.int .i32 32)], .agg [.lit (.int .i32 1040), .lit (.int .i32 1071), .lit (.int .i32 1), .lit (.int .i32 32)], .agg [.lit (.int .i32 1024), .lit (.int .i32 1039), .lit (.int .i32 1), .lit (.int .i32 80)], .agg [.lit (.int .i32 256), .lit (.int .i32 310), .lit (.int .i32 2), .lit (.int .i32 1)], .agg [.lit (.int .i32 330), .lit (.int .i32 374), .lit (.int .i32 2), .lit (.int .i32 1)], .agg [.lit (.int .i32 313), .lit (.int .i32 327), .lit (.int .i32 2), .lit (.int .i32 1)], .agg [.lit (.int .i32 377), .lit (.int .i32 381), .lit (.int .i32 2), .lit (.int .i32 1)], .agg [.lit (.int .i32 376), .lit (.int .i32 376), .lit (.int .i32 1), .lit (.int .i32 (-121))]]
/-- One of Go's own tables, pinned by name: the form's constant. -/
def laid_unicode_utf8_first : DataW Unit := Go.Pinned.utf8First

/-- 'mapsheetslaw07.NameChecks': WHATEVER THE INPUT: true; the input reads as it did. -/
def nameChecksSpec : ChangeSpec := { name := "nameChecks", fn := fun _ => fun
  | [d] => { results := [.lit (.bool true)], args := [d] }
  | _ => none }
def nameChecksRow : OpenClaim := { program := "ytjbkpiimjkekgaadoor", sum := "8405170067e92573e4ee0617a0b86faeed046d9cebd94feabaa5b6cbb40b8080", func := "mapsheets/mapsheetslaw07.NameChecks", spec := "nameChecks", inPlace := ["internal/bytealg.IndexByteString", "internal/bytealg.IndexString", "internal/bytealg.abigen_runtime_cmpstring"], unfollowed := true, recurses := true, named := ["mapsheets/glyph.scripts", "unicode/utf8.first", "unicode/utf8.acceptRanges", "internal/bytealg.MaxLen", "mapsheets/glyph.folds"], apart := false, laid := [("unicode/utf8.acceptRanges", laid_unicode_utf8_acceptRanges), ("mapsheets/glyph.scripts", laid_mapsheets_glyph_scripts), ("mapsheets/glyph.folds", laid_mapsheets_glyph_folds), ("unicode/utf8.first", laid_unicode_utf8_first)] }
def NameChecksSaid : Prop := nameChecksRow.holds Tryd.pinned (OpenSpec.ofChange nameChecksSpec)

/-- ITS FALSE NEIGHBOUR: 'it returns false'. Refute it at one input. -/
def nameChecksWrong : ChangeSpec := { name := "nameChecks", fn := fun _ => fun
  | [d] => { results := [.lit (.bool false)], args := [d] }
  | _ => none }
def NameChecksWrongFalsely : Prop := nameChecksRow.holds Tryd.pinned (OpenSpec.ofChange nameChecksWrong)

/-- 'mapsheetslaw07.NameCompares': WHATEVER THE INPUT: true; the input reads as it did. -/
def nameComparesSpec : ChangeSpec := { name := "nameCompares", fn := fun _ => fun
  | [d1, d2] => { results := [.lit (.bool true)], args := [d1, d2] }
  | _ => none }
def nameComparesRow : OpenClaim := { program := "ytjbkpiimjkekgaadoor", sum := "8405170067e92573e4ee0617a0b86faeed046d9cebd94feabaa5b6cbb40b8080", func := "mapsheets/mapsheetslaw07.NameCompares", spec := "nameCompares", inPlace := ["internal/bytealg.IndexByteString", "internal/bytealg.IndexString", "internal/bytealg.abigen_runtime_cmpstring"], unfollowed := true, recurses := true, named := ["mapsheets/glyph.scripts", "unicode/utf8.first", "unicode/utf8.acceptRanges", "internal/bytealg.MaxLen", "mapsheets/glyph.folds"], apart := false, laid := [("unicode/utf8.acceptRanges", laid_unicode_utf8_acceptRanges), ("mapsheets/glyph.scripts", laid_mapsheets_glyph_scripts), ("mapsheets/glyph.folds", laid_mapsheets_glyph_folds), ("unicode/utf8.first", laid_unicode_utf8_first)] }
def NameComparesSaid : Prop := nameComparesRow.holds Tryd.pinned (OpenSpec.ofChange nameComparesSpec)

/-- ITS FALSE NEIGHBOUR: 'it returns false'. Refute it at one input. -/
def nameComparesWrong : ChangeSpec := { name := "nameCompares", fn := fun _ => fun
  | [d1, d2] => { results := [.lit (.bool false)], args := [d1, d2] }
  | _ => none }
def NameComparesWrongFalsely : Prop := nameComparesRow.holds Tryd.pinned (OpenSpec.ofChange nameComparesWrong)

/-- 'mapsheetslaw07.NameOrders': WHATEVER THE INPUT: true; the input reads as it did. -/
def nameOrdersSpec : ChangeSpec := { name := "nameOrders", fn := fun _ => fun
  | [d1, d2, d3] => { results := [.lit (.bool true)], args := [d1, d2, d3] }
  | _ => none }
def nameOrdersRow : OpenClaim := { program := "ytjbkpiimjkekgaadoor", sum := "8405170067e92573e4ee0617a0b86faeed046d9cebd94feabaa5b6cbb40b8080", func := "mapsheets/mapsheetslaw07.NameOrders", spec := "nameOrders", inPlace := ["internal/bytealg.IndexByteString", "internal/bytealg.IndexString", "internal/bytealg.abigen_runtime_cmpstring"], unfollowed := true, recurses := true, named := ["mapsheets/glyph.scripts", "unicode/utf8.first", "unicode/utf8.acceptRanges", "internal/bytealg.MaxLen", "mapsheets/glyph.folds"], apart := false, laid := [("unicode/utf8.acceptRanges", laid_unicode_utf8_acceptRanges), ("mapsheets/glyph.scripts", laid_mapsheets_glyph_scripts), ("mapsheets/glyph.folds", laid_mapsheets_glyph_folds), ("unicode/utf8.first", laid_unicode_utf8_first)] }
def NameOrdersSaid : Prop := nameOrdersRow.holds Tryd.pinned (OpenSpec.ofChange nameOrdersSpec)

/-- ITS FALSE NEIGHBOUR: 'it returns false'. Refute it at one input. -/
def nameOrdersWrong : ChangeSpec := { name := "nameOrders", fn := fun _ => fun
  | [d1, d2, d3] => { results := [.lit (.bool false)], args := [d1, d2, d3] }
  | _ => none }
def NameOrdersWrongFalsely : Prop := nameOrdersRow.holds Tryd.pinned (OpenSpec.ofChange nameOrdersWrong)

/-- 'mapsheetslaw07.NameRuns': WHATEVER THE INPUT: true; the input reads as it did. -/
def nameRunsSpec : ChangeSpec := { name := "nameRuns", fn := fun _ => fun
  | [d1, d2, d3, d4] => { results := [.lit (.bool true)], args := [d1, d2, d3, d4] }
  | _ => none }
def nameRunsRow : OpenClaim := { program := "ytjbkpiimjkekgaadoor", sum := "8405170067e92573e4ee0617a0b86faeed046d9cebd94feabaa5b6cbb40b8080", func := "mapsheets/mapsheetslaw07.NameRuns", spec := "nameRuns", inPlace := ["internal/bytealg.IndexByteString", "internal/bytealg.IndexString", "internal/bytealg.abigen_runtime_cmpstring"], unfollowed := true, recurses := true, named := ["mapsheets/glyph.scripts", "unicode/utf8.first", "unicode/utf8.acceptRanges", "internal/bytealg.MaxLen", "mapsheets/glyph.folds"], apart := false, laid := [("unicode/utf8.acceptRanges", laid_unicode_utf8_acceptRanges), ("mapsheets/glyph.scripts", laid_mapsheets_glyph_scripts), ("mapsheets/glyph.folds", laid_mapsheets_glyph_folds), ("unicode/utf8.first", laid_unicode_utf8_first)] }
def NameRunsSaid : Prop := nameRunsRow.holds Tryd.pinned (OpenSpec.ofChange nameRunsSpec)

/-- ITS FALSE NEIGHBOUR: 'it returns false'. Refute it at one input. -/
def nameRunsWrong : ChangeSpec := { name := "nameRuns", fn := fun _ => fun
  | [d1, d2, d3, d4] => { results := [.lit (.bool false)], args := [d1, d2, d3, d4] }
  | _ => none }
def NameRunsWrongFalsely : Prop := nameRunsRow.holds Tryd.pinned (OpenSpec.ofChange nameRunsWrong)

/-- 'mapsheetslaw07.NameWidths': WHATEVER THE INPUT: true; the input reads as it did. -/
def nameWidthsSpec : ChangeSpec := { name := "nameWidths", fn := fun _ => fun
  | [d1, d2] => { results := [.lit (.bool true)], args := [d1, d2] }
  | _ => none }
def nameWidthsRow : OpenClaim := { program := "ytjbkpiimjkekgaadoor", sum := "8405170067e92573e4ee0617a0b86faeed046d9cebd94feabaa5b6cbb40b8080", func := "mapsheets/mapsheetslaw07.NameWidths", spec := "nameWidths", inPlace := ["internal/bytealg.IndexByteString", "internal/bytealg.IndexString", "internal/bytealg.abigen_runtime_cmpstring"], unfollowed := true, recurses := true, named := ["mapsheets/glyph.scripts", "unicode/utf8.first", "unicode/utf8.acceptRanges", "internal/bytealg.MaxLen", "mapsheets/glyph.folds"], apart := false, laid := [("unicode/utf8.acceptRanges", laid_unicode_utf8_acceptRanges), ("mapsheets/glyph.scripts", laid_mapsheets_glyph_scripts), ("mapsheets/glyph.folds", laid_mapsheets_glyph_folds), ("unicode/utf8.first", laid_unicode_utf8_first)] }
def NameWidthsSaid : Prop := nameWidthsRow.holds Tryd.pinned (OpenSpec.ofChange nameWidthsSpec)

/-- ITS FALSE NEIGHBOUR: 'it returns false'. Refute it at one input. -/
def nameWidthsWrong : ChangeSpec := { name := "nameWidths", fn := fun _ => fun
  | [d1, d2] => { results := [.lit (.bool false)], args := [d1, d2] }
  | _ => none }
def NameWidthsWrongFalsely : Prop := nameWidthsRow.holds Tryd.pinned (OpenSpec.ofChange nameWidthsWrong)

/-- 'mapsheetslaw07.NameFolds': WHATEVER THE INPUT: true; the input reads as it did. -/
def nameFoldsSpec : ChangeSpec := { name := "nameFolds", fn := fun _ => fun
  | [d] => { results := [.lit (.bool true)], args := [d] }
  | _ => none }
def nameFoldsRow : OpenClaim := { program := "ytjbkpiimjkekgaadoor", sum := "8405170067e92573e4ee0617a0b86faeed046d9cebd94feabaa5b6cbb40b8080", func := "mapsheets/mapsheetslaw07.NameFolds", spec := "nameFolds", inPlace := ["internal/bytealg.IndexByteString", "internal/bytealg.IndexString", "internal/bytealg.abigen_runtime_cmpstring"], unfollowed := true, recurses := true, named := ["mapsheets/glyph.scripts", "unicode/utf8.first", "unicode/utf8.acceptRanges", "internal/bytealg.MaxLen", "mapsheets/glyph.folds"], apart := false, laid := [("unicode/utf8.acceptRanges", laid_unicode_utf8_acceptRanges), ("mapsheets/glyph.scripts", laid_mapsheets_glyph_scripts), ("mapsheets/glyph.folds", laid_mapsheets_glyph_folds), ("unicode/utf8.first", laid_unicode_utf8_first)] }
def NameFoldsSaid : Prop := nameFoldsRow.holds Tryd.pinned (OpenSpec.ofChange nameFoldsSpec)

/-- ITS FALSE NEIGHBOUR: 'it returns false'. Refute it at one input. -/
def nameFoldsWrong : ChangeSpec := { name := "nameFolds", fn := fun _ => fun
  | [d] => { results := [.lit (.bool false)], args := [d] }
  | _ => none }
def NameFoldsWrongFalsely : Prop := nameFoldsRow.holds Tryd.pinned (OpenSpec.ofChange nameFoldsWrong)

/-- 'mapsheetslaw07.NameSpells': WHATEVER THE INPUT: true; the input reads as it did. -/
def nameSpellsSpec : ChangeSpec := { name := "nameSpells", fn := fun _ => fun
  | [d1, d2] => { results := [.lit (.bool true)], args := [d1, d2] }
  | _ => none }
def nameSpellsRow : OpenClaim := { program := "ytjbkpiimjkekgaadoor", sum := "8405170067e92573e4ee0617a0b86faeed046d9cebd94feabaa5b6cbb40b8080", func := "mapsheets/mapsheetslaw07.NameSpells", spec := "nameSpells", inPlace := ["internal/bytealg.IndexByteString", "internal/bytealg.IndexString", "internal/bytealg.abigen_runtime_cmpstring"], unfollowed := true, recurses := true, named := ["mapsheets/glyph.scripts", "unicode/utf8.first", "unicode/utf8.acceptRanges", "internal/bytealg.MaxLen", "mapsheets/glyph.folds"], apart := false, laid := [("unicode/utf8.acceptRanges", laid_unicode_utf8_acceptRanges), ("mapsheets/glyph.scripts", laid_mapsheets_glyph_scripts), ("mapsheets/glyph.folds", laid_mapsheets_glyph_folds), ("unicode/utf8.first", laid_unicode_utf8_first)] }
def NameSpellsSaid : Prop := nameSpellsRow.holds Tryd.pinned (OpenSpec.ofChange nameSpellsSpec)

/-- ITS FALSE NEIGHBOUR: 'it returns false'. Refute it at one input. -/
def nameSpellsWrong : ChangeSpec := { name := "nameSpells", fn := fun _ => fun
  | [d1, d2] => { results := [.lit (.bool false)], args := [d1, d2] }
  | _ => none }
def NameSpellsWrongFalsely : Prop := nameSpellsRow.holds Tryd.pinned (OpenSpec.ofChange nameSpellsWrong)

/- THE SECOND FORM. 'bulk': how many values and letters a reading holds, each counted each time it is reached (what is shared counts as often as it is met; a slice's spare places count too). A statement '..UptoSaid' is the law's where the arguments, and the package variables that the reading takes, are together of bulk at most 1048576: NARROWER than '..Said'. Prove '..Said' where nothing that the law and all that it calls make is longer than what came in: it says more and counts as full. Else prove '..UptoSaid'. A law counts once. -/
mutual
def uptoBulk {H : Type} : DataW H → Nat
  | .lit (.string bytes) => bytes.length + 1
  | .lit _ => 1
  | .nil => 1
  | .ptr d => uptoBulk d + 1
  | .slice elems spare => uptoBulkAll elems + uptoBulkAll spare + 1
  | .agg parts => uptoBulkAll parts + 1
  | .iface _ d => uptoBulk d + 1
  | .map entries => uptoBulkEntries entries + 1
  | .held _ => 1
def uptoBulkAll {H : Type} : List (DataW H) → Nat
  | [] => 0
  | d :: r => uptoBulk d + uptoBulkAll r
def uptoBulkEntries {H : Type} : List (Lit × DataW H) → Nat
  | [] => 0
  | x :: r => uptoBulkEntry x + uptoBulkEntries r
def uptoBulkEntry {H : Type} : Lit × DataW H → Nat
  | (.string bytes, d) => bytes.length + uptoBulk d + 1
  | (_, d) => uptoBulk d + 1
 end
def uptoSmall : (H : Type) → List (DataW H) → Bool := fun _ ds => decide (uptoBulkAll ds ≤ 1048576)
def OpenSpec.upto (s : _root_.Go.ChangeSpec) : _root_.Go.OpenSpec := { _root_.Go.OpenSpec.ofChange s with cond := some uptoSmall }

/-- 'mapsheetslaw07.NameChecks', WHERE WHAT IT READS IS OF BULK AT MOST 1048576: true; the input reads as it did. -/
def nameChecksUptoRow : OpenClaim := { program := "ytjbkpiimjkekgaadoor", sum := "8405170067e92573e4ee0617a0b86faeed046d9cebd94feabaa5b6cbb40b8080", func := "mapsheets/mapsheetslaw07.NameChecks", spec := "nameChecks", inPlace := ["internal/bytealg.IndexByteString", "internal/bytealg.IndexString", "internal/bytealg.abigen_runtime_cmpstring"], unfollowed := true, recurses := true, named := ["mapsheets/glyph.scripts", "unicode/utf8.first", "unicode/utf8.acceptRanges", "internal/bytealg.MaxLen", "mapsheets/glyph.folds"], apart := false, laid := [("unicode/utf8.acceptRanges", laid_unicode_utf8_acceptRanges), ("mapsheets/glyph.scripts", laid_mapsheets_glyph_scripts), ("mapsheets/glyph.folds", laid_mapsheets_glyph_folds), ("unicode/utf8.first", laid_unicode_utf8_first)], narrowed := true }
def NameChecksUptoSaid : Prop := nameChecksUptoRow.holds Tryd.pinned (OpenSpec.upto nameChecksSpec)

/-- 'mapsheetslaw07.NameCompares', WHERE WHAT IT READS IS OF BULK AT MOST 1048576: true; the input reads as it did. -/
def nameComparesUptoRow : OpenClaim := { program := "ytjbkpiimjkekgaadoor", sum := "8405170067e92573e4ee0617a0b86faeed046d9cebd94feabaa5b6cbb40b8080", func := "mapsheets/mapsheetslaw07.NameCompares", spec := "nameCompares", inPlace := ["internal/bytealg.IndexByteString", "internal/bytealg.IndexString", "internal/bytealg.abigen_runtime_cmpstring"], unfollowed := true, recurses := true, named := ["mapsheets/glyph.scripts", "unicode/utf8.first", "unicode/utf8.acceptRanges", "internal/bytealg.MaxLen", "mapsheets/glyph.folds"], apart := false, laid := [("unicode/utf8.acceptRanges", laid_unicode_utf8_acceptRanges), ("mapsheets/glyph.scripts", laid_mapsheets_glyph_scripts), ("mapsheets/glyph.folds", laid_mapsheets_glyph_folds), ("unicode/utf8.first", laid_unicode_utf8_first)], narrowed := true }
def NameComparesUptoSaid : Prop := nameComparesUptoRow.holds Tryd.pinned (OpenSpec.upto nameComparesSpec)

/-- 'mapsheetslaw07.NameOrders', WHERE WHAT IT READS IS OF BULK AT MOST 1048576: true; the input reads as it did. -/
def nameOrdersUptoRow : OpenClaim := { program := "ytjbkpiimjkekgaadoor", sum := "8405170067e92573e4ee0617a0b86faeed046d9cebd94feabaa5b6cbb40b8080", func := "mapsheets/mapsheetslaw07.NameOrders", spec := "nameOrders", inPlace := ["internal/bytealg.IndexByteString", "internal/bytealg.IndexString", "internal/bytealg.abigen_runtime_cmpstring"], unfollowed := true, recurses := true, named := ["mapsheets/glyph.scripts", "unicode/utf8.first", "unicode/utf8.acceptRanges", "internal/bytealg.MaxLen", "mapsheets/glyph.folds"], apart := false, laid := [("unicode/utf8.acceptRanges", laid_unicode_utf8_acceptRanges), ("mapsheets/glyph.scripts", laid_mapsheets_glyph_scripts), ("mapsheets/glyph.folds", laid_mapsheets_glyph_folds), ("unicode/utf8.first", laid_unicode_utf8_first)], narrowed := true }
def NameOrdersUptoSaid : Prop := nameOrdersUptoRow.holds Tryd.pinned (OpenSpec.upto nameOrdersSpec)

/-- 'mapsheetslaw07.NameRuns', WHERE WHAT IT READS IS OF BULK AT MOST 1048576: true; the input reads as it did. -/
def nameRunsUptoRow : OpenClaim := { program := "ytjbkpiimjkekgaadoor", sum := "8405170067e92573e4ee0617a0b86faeed046d9cebd94feabaa5b6cbb40b8080", func := "mapsheets/mapsheetslaw07.NameRuns", spec := "nameRuns", inPlace := ["internal/bytealg.IndexByteString", "internal/bytealg.IndexString", "internal/bytealg.abigen_runtime_cmpstring"], unfollowed := true, recurses := true, named := ["mapsheets/glyph.scripts", "unicode/utf8.first", "unicode/utf8.acceptRanges", "internal/bytealg.MaxLen", "mapsheets/glyph.folds"], apart := false, laid := [("unicode/utf8.acceptRanges", laid_unicode_utf8_acceptRanges), ("mapsheets/glyph.scripts", laid_mapsheets_glyph_scripts), ("mapsheets/glyph.folds", laid_mapsheets_glyph_folds), ("unicode/utf8.first", laid_unicode_utf8_first)], narrowed := true }
def NameRunsUptoSaid : Prop := nameRunsUptoRow.holds Tryd.pinned (OpenSpec.upto nameRunsSpec)

/-- 'mapsheetslaw07.NameWidths', WHERE WHAT IT READS IS OF BULK AT MOST 1048576: true; the input reads as it did. -/
def nameWidthsUptoRow : OpenClaim := { program := "ytjbkpiimjkekgaadoor", sum := "8405170067e92573e4ee0617a0b86faeed046d9cebd94feabaa5b6cbb40b8080", func := "mapsheets/mapsheetslaw07.NameWidths", spec := "nameWidths", inPlace := ["internal/bytealg.IndexByteString", "internal/bytealg.IndexString", "internal/bytealg.abigen_runtime_cmpstring"], unfollowed := true, recurses := true, named := ["mapsheets/glyph.scripts", "unicode/utf8.first", "unicode/utf8.acceptRanges", "internal/bytealg.MaxLen", "mapsheets/glyph.folds"], apart := false, laid := [("unicode/utf8.acceptRanges", laid_unicode_utf8_acceptRanges), ("mapsheets/glyph.scripts", laid_mapsheets_glyph_scripts), ("mapsheets/glyph.folds", laid_mapsheets_glyph_folds), ("unicode/utf8.first", laid_unicode_utf8_first)], narrowed := true }
def NameWidthsUptoSaid : Prop := nameWidthsUptoRow.holds Tryd.pinned (OpenSpec.upto nameWidthsSpec)

/-- 'mapsheetslaw07.NameFolds', WHERE WHAT IT READS IS OF BULK AT MOST 1048576: true; the input reads as it did. -/
def nameFoldsUptoRow : OpenClaim := { program := "ytjbkpiimjkekgaadoor", sum := "8405170067e92573e4ee0617a0b86faeed046d9cebd94feabaa5b6cbb40b8080", func := "mapsheets/mapsheetslaw07.NameFolds", spec := "nameFolds", inPlace := ["internal/bytealg.IndexByteString", "internal/bytealg.IndexString", "internal/bytealg.abigen_runtime_cmpstring"], unfollowed := true, recurses := true, named := ["mapsheets/glyph.scripts", "unicode/utf8.first", "unicode/utf8.acceptRanges", "internal/bytealg.MaxLen", "mapsheets/glyph.folds"], apart := false, laid := [("unicode/utf8.acceptRanges", laid_unicode_utf8_acceptRanges), ("mapsheets/glyph.scripts", laid_mapsheets_glyph_scripts), ("mapsheets/glyph.folds", laid_mapsheets_glyph_folds), ("unicode/utf8.first", laid_unicode_utf8_first)], narrowed := true }
def NameFoldsUptoSaid : Prop := nameFoldsUptoRow.holds Tryd.pinned (OpenSpec.upto nameFoldsSpec)

/-- 'mapsheetslaw07.NameSpells', WHERE WHAT IT READS IS OF BULK AT MOST 1048576: true; the input reads as it did. -/
def nameSpellsUptoRow : OpenClaim := { program := "ytjbkpiimjkekgaadoor", sum := "8405170067e92573e4ee0617a0b86faeed046d9cebd94feabaa5b6cbb40b8080", func := "mapsheets/mapsheetslaw07.NameSpells", spec := "nameSpells", inPlace := ["internal/bytealg.IndexByteString", "internal/bytealg.IndexString", "internal/bytealg.abigen_runtime_cmpstring"], unfollowed := true, recurses := true, named := ["mapsheets/glyph.scripts", "unicode/utf8.first", "unicode/utf8.acceptRanges", "internal/bytealg.MaxLen", "mapsheets/glyph.folds"], apart := false, laid := [("unicode/utf8.acceptRanges", laid_unicode_utf8_acceptRanges), ("mapsheets/glyph.scripts", laid_mapsheets_glyph_scripts), ("mapsheets/glyph.folds", laid_mapsheets_glyph_folds), ("unicode/utf8.first", laid_unicode_utf8_first)], narrowed := true }
def NameSpellsUptoSaid : Prop := nameSpellsUptoRow.holds Tryd.pinned (OpenSpec.upto nameSpellsSpec)

end Rows
end Go.Proofs.YtjbkpiimjkekgaaDoor
