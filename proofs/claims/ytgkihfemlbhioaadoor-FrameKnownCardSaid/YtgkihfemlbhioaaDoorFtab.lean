/- What the rows list of the package's table, and a world that holds it. -/
import Derived.Test.YtgkihfemlbhioaaDoorRows
import Derived.Test.YtgkihfemlbhioaaDoorFcc
import Derived.ProofKit
namespace Go.Proofs.YtgkihfemlbhioaaDoor
open Go.ChangeShapes Go.WideShapes Go.ChangeAt Go.RowKit
theorem gTab : Tryd.prog.globalNamed "braidwork/crc.steps" = some 0 := by kernel_rfl
theorem gTabType : (Tryd.prog.globals[0]?).map (·.type) = some 114 := by kernel_rfl
theorem cells48 : Tryd.prog.cellsOf 114 = 16 := by kernel_rfl
theorem cells24 : Tryd.prog.cellsOf 46 = 1 := by kernel_rfl
theorem tabW_laid {W : World} (h : laidMetH Tryd.prog [("braidwork/crc.steps", Rows.laid_braidwork_crc_steps)] W) : TabW W :=
  Lib.tabIs_of_head (rest := []) gTab gTabType Tryd.underlying114 Tryd.underlying46 cells24 cells48 h
/-- A world for the witness: the settled one, the table holding what its initialiser lays. -/
noncomputable def laidWorld (os : Os) : World :=
  { World.holding Tryd.prog os ⟨#[], #[], []⟩ with heap := (World.holding Tryd.prog os ⟨#[], #[], []⟩).heap.modify 0 fun
      | .cells _ t frozen => .cells #[.int .u32 0, .int .u32 498536548, .int .u32 997073096, .int .u32 651767980, .int .u32 1994146192, .int .u32 1802195444, .int .u32 1303535960, .int .u32 1342533948, .int .u32 3988292384, .int .u32 4027552580, .int .u32 3604390888, .int .u32 3412177804, .int .u32 2607071920, .int .u32 2262029012, .int .u32 2685067896, .int .u32 3183342108] t frozen
      | o => o }
end Go.Proofs.YtgkihfemlbhioaaDoor
