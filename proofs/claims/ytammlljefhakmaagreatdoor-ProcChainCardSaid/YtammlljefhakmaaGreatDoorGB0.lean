/- Helps of the proof. No condition. -/
import Derived.Test.YtammlljefhakmaaGreatDoorGA
import Derived.ProofKit
import Derived.LaidMore
import Derived.OpenShut
import Derived.Stop.Joined
import Derived.Lib.SmallJoins
import Derived.Lib.LaidTab
import Derived.Stop.LaidErr
namespace Go.Proofs.YtammlljefhakmaaGreatDoor
open Go.ChangeShapes Go.WideShapes Go.ChangeAt Go.RowKit
set_option maxRecDepth 100000
theorem WY:Tryz.prog.globalNamed "priory/word.masks" =some 0:=by kernel_rfl
theorem PZ:Tryz.prog.globalNamed "math/bits.deBruijn32tab" =some 1:=by kernel_rfl
theorem adf:(Tryz.prog.globals[0]?).map (·.type)=some 46:=by kernel_rfl
theorem aah:(Tryz.prog.globals[1]?).map (·.type)=some 320:=by kernel_rfl
theorem afd:Tryz.prog.cellsOf 25=1:=by kernel_rfl
theorem afe:Tryz.prog.cellsOf 5=1:=by kernel_rfl
theorem adg:Tryz.prog.cellsOf 46=8:=by kernel_rfl
theorem aai:Tryz.prog.cellsOf 320=32:=by kernel_rfl
end Go.Proofs.YtammlljefhakmaaGreatDoor
