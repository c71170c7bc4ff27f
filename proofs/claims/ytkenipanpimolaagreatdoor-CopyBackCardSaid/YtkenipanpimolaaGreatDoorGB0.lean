/- Texts of mine, joined: F0. What each says and under which conditions stands at its head, below. -/
import Derived.Test.YtkenipanpimolaaGreatDoorGA
import Derived.ProofKit
import Derived.LaidMore
import Derived.OpenShut
import Derived.Stop.Joined
import Derived.Lib.SmallJoins
import Derived.Lib.LaidTab
import Derived.Stop.LaidErr
/- What the rows' condition gives the walks: the two tables lie as laid; and the world in which the witness starts. -/
namespace Go.Proofs.YtkenipanpimolaaGreatDoor
open Go.ChangeShapes Go.WideShapes Go.ChangeAt Go.RowKit
set_option maxRecDepth 100000

theorem gMasks : Tryz.prog.globalNamed "priory/word.masks" = some 0 := by kernel_rfl
theorem gBruijn : Tryz.prog.globalNamed "math/bits.deBruijn32tab" = some 1 := by kernel_rfl
theorem tMasks : (Tryz.prog.globals[0]?).map (·.type) = some 242 := by kernel_rfl
theorem tBruijn : (Tryz.prog.globals[1]?).map (·.type) = some 255 := by kernel_rfl
theorem cWord : Tryz.prog.cellsOf 23 = 1 := by kernel_rfl
theorem cByte : Tryz.prog.cellsOf 5 = 1 := by kernel_rfl
theorem cMasks : Tryz.prog.cellsOf 242 = 8 := by kernel_rfl
theorem cBruijn : Tryz.prog.cellsOf 255 = 32 := by kernel_rfl

abbrev laidTwo : List (String × DataW Unit) := [("math/bits.deBruijn32tab", Rows.laid_math_bits_deBruijn32tab), ("priory/word.masks", Rows.laid_priory_word_masks)]

end Go.Proofs.YtkenipanpimolaaGreatDoor
