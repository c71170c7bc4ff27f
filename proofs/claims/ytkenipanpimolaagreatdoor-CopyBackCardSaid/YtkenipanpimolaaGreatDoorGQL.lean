/- Texts of mine, joined: QL. What each says and under which conditions stands at its head, below. -/
import Derived.Test.YtkenipanpimolaaGreatDoorGJ
import Derived.Test.YtkenipanpimolaaGreatDoorGLD
import Derived.ProofKit
import Derived.OpenShut
/- What the condition of a row that lists the library's table alone gives the walks: it lies as laid; and the world in which the witness starts. -/
namespace Go.Proofs.YtkenipanpimolaaGreatDoor
open Go.ChangeShapes Go.WideShapes Go.ChangeAt Go.RowKit
set_option maxRecDepth 100000

theorem gTab64 : Tryz.prog.globalNamed "math/bits.deBruijn64tab" = some 2 := by kernel_rfl
theorem tTab64 : (Tryz.prog.globals[2]?).map (·.type) = some 256 := by kernel_rfl
theorem cU8 : Tryz.prog.cellsOf 5 = 1 := by kernel_rfl
theorem cTab64 : Tryz.prog.cellsOf 256 = 64 := by kernel_rfl

abbrev laidTab : List (String × DataW Unit) := [("math/bits.deBruijn64tab", Rows.laid_math_bits_deBruijn64tab)]

end Go.Proofs.YtkenipanpimolaaGreatDoor
