/- What the rows of name list: the tables of glyph, and those of Go's unicode/utf8 (which name's road never reads); a world that holds them. -/
import Derived.Test.YtjbkpiimjkekgaaDoorYLaid
import Derived.Test.YtjbkpiimjkekgaaDoorNPlain
import Derived.Test.YtjbkpiimjkekgaaDoorShelf
namespace Go.Proofs.YtjbkpiimjkekgaaDoor.Name
open Go.RowKit
open Go.Proofs.YtjbkpiimjkekgaaDoor.Wire
open Go.Proofs.YtjbkpiimjkekgaaDoor.Glyph
set_option linter.unusedVariables false

/-- the variables hold what name reads: glyph's tables, and some integer where the library's search keeps its greatest length -/
structure NT (w : World) : Prop where
  tab : Tab w
  mx : ∃ m, w.cell? ⟨2, 0, none⟩ = some (.int .i64 m)
theorem cell_bl {w w' : World} {g : Nat} {v : Value} (h : w.cell? ⟨g, 0, none⟩ = some v) (hb : Bl w w') : w'.cell? ⟨g, 0, none⟩ = some v := by
  rw [← h]
  exact hb.cell (World.block_lt_of_cell? _ _ h)
theorem NT.bl {w w' : World} (h : NT w) (hb : Bl w w') : NT w' := by
  obtain ⟨h0, ⟨m, h1⟩⟩ := h
  exact ⟨h0.bl hb, ⟨m, cell_bl h1 hb⟩⟩
theorem nt {W : World} (h : laidMetH Tryd.prog [("unicode/utf8.acceptRanges", Rows.laid_unicode_utf8_acceptRanges), ("mapsheets/glyph.scripts", Rows.laid_mapsheets_glyph_scripts), ("mapsheets/glyph.folds", Rows.laid_mapsheets_glyph_folds), ("unicode/utf8.first", Rows.laid_unicode_utf8_first)] W) (hs : W.ShapedOpen Tryd.prog) : NT W := by
  have hm : laidMet Tryd.prog [("unicode/utf8.acceptRanges", Rows.laid_unicode_utf8_acceptRanges), ("mapsheets/glyph.scripts", Rows.laid_mapsheets_glyph_scripts), ("mapsheets/glyph.folds", Rows.laid_mapsheets_glyph_folds), ("unicode/utf8.first", Rows.laid_unicode_utf8_first)] W := h
  exact ⟨tabs_in hm (by simp) (by simp), Tryd.laysM144.s1_3 W hs⟩
def layFirst : Obj → Obj
  | .cells _ t frozen => .cells ((Pinned.utf8FirstZ.map fun (n : Nat) => Value.int .u8 n).toArray) t frozen
  | o => o
/-- the numbers that the row lists of a table of structs of two bytes -/
def litZ : DataW Unit → List Value
  | .lit (.int k z) => [.int k z]
  | .agg l => l.flatMap fun
    | .lit (.int k z) => [.int k z]
    | .agg m => m.flatMap fun
      | .lit (.int k z) => [.int k z]
      | _ => []
    | _ => []
  | _ => []
def layAccept : Obj → Obj
  | .cells _ t frozen => .cells (litZ Rows.laid_unicode_utf8_acceptRanges).toArray t frozen
  | o => o
/-- a world for the witnesses -/
noncomputable def laidN (os : Os) : World :=
  { laidWorld os with heap := ((laidWorld os).heap.modify 3 layFirst).modify 4 layAccept }
end Go.Proofs.YtjbkpiimjkekgaaDoor.Name
