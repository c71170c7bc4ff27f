/- Helps of the proof. No condition. -/
import Derived.Test.YtammlljefhakmaaGreatDoorGA
import Derived.ProofKit
import Derived.LaidMore
import Derived.OpenShut
import Derived.Stop.Joined
import Derived.Lib.SmallJoins
import Derived.Lib.LaidTab
import Derived.Stop.LaidErr
namespace Go.Proofs.YtammlljefhakmaaGreatDoor
open Go.ChangeShapes Go.WideShapes Go.ChangeAt Go.RowKit
set_option maxRecDepth 100000
theorem UJ:Tryz.prog.globalNamed "priory/word.masks" =some 0:=by kernel_rfl
theorem NK:Tryz.prog.globalNamed "math/bits.deBruijn32tab" =some 1:=by kernel_rfl
theorem ab7:(Tryz.prog.globals[0]?).map (·.type)=some 46:=by kernel_rfl
theorem Yi:(Tryz.prog.globals[1]?).map (·.type)=some 320:=by kernel_rfl
theorem ad9:Tryz.prog.cellsOf 25=1:=by kernel_rfl
theorem ada:Tryz.prog.cellsOf 5=1:=by kernel_rfl
theorem ab8:Tryz.prog.cellsOf 46=8:=by kernel_rfl
theorem Yj:Tryz.prog.cellsOf 320=32:=by kernel_rfl
end Go.Proofs.YtammlljefhakmaaGreatDoor
