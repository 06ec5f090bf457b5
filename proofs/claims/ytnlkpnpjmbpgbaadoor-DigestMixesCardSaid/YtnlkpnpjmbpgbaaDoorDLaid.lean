/- What the rows of digest list: the table's variable; a world that holds it. -/
import Derived.Test.YtnlkpnpjmbpgbaaDoorDAwake
import Derived.Test.YtnlkpnpjmbpgbaaDoorWArgs
import Derived.Test.YtnlkpnpjmbpgbaaDoorCards
import Derived.Test.YtnlkpnpjmbpgbaaDoorTie
import Derived.SevenTiedAt
import Derived.Deep.DeepHandedRow
import Derived.Lib.LaidTab
namespace Go.Proofs.YtnlkpnpjmbpgbaaDoor.Digest
open Go.RowKit
open Go.Proofs.YtnlkpnpjmbpgbaaDoor.Wire
set_option linter.unusedVariables false

theorem gTab : Tryd.prog.globalNamed "mapsheets/digest.remainders" = some 0 := by kernel_rfl
theorem gTabType : (Tryd.prog.globals[0]?).map (·.type) = some 45 := by kernel_rfl
theorem cellsTab : Tryd.prog.cellsOf 45 = 16 := by kernel_rfl
theorem cells32 : Tryd.prog.cellsOf 40 = 1 := by kernel_rfl
theorem table {W : World} (h : laidMetH Tryd.prog [("mapsheets/digest.remainders", Rows.laid_mapsheets_digest_remainders)] W) : Tab W := by
  have ht : Lib.TabIs Tryd.prog W "mapsheets/digest.remainders" .u32 tab := Lib.tabIs_of_head (rest := []) gTab gTabType Tryd.underlying45 Tryd.underlying40 cells32 cellsTab h
  have hc : ∀ i, i < 16 → W.cell? ⟨0, i, none⟩ = some (.int .u32 (tab.getD i 0)) := fun i hi => ht.cell gTab i hi
  have h0 := World.block_lt_of_cell? _ _ (hc 0 (by decide))
  exact ⟨by simpa using h0, hc⟩
/-- a world for the witnesses: the settled one, the table (block 0) holding what its initialiser lays -/
noncomputable def laidWorld (os : Os) : World :=
  { World.holding Tryd.prog os ⟨#[], #[], []⟩ with heap := (World.holding Tryd.prog os ⟨#[], #[], []⟩).heap.modify 0 fun
      | .cells _ t frozen => .cells (tab.map (Value.int .u32)).toArray t frozen
      | o => o }
end Go.Proofs.YtnlkpnpjmbpgbaaDoor.Digest
