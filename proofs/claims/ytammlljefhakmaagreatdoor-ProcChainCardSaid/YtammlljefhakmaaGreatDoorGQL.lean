/- Helps of the proof. No condition. -/
import Derived.Test.YtammlljefhakmaaGreatDoorGJ
import Derived.Test.YtammlljefhakmaaGreatDoorGLD
import Derived.ProofKit
import Derived.OpenShut
namespace Go.Proofs.YtammlljefhakmaaGreatDoor
open Go.ChangeShapes Go.WideShapes Go.ChangeAt Go.RowKit
set_option maxRecDepth 100000
theorem WZ:Tryz.prog.globalNamed "math/bits.deBruijn64tab" =some 2:=by kernel_rfl
theorem adh:(Tryz.prog.globals[2]?).map (·.type)=some 321:=by kernel_rfl
theorem cU8:Tryz.prog.cellsOf 5=1:=by kernel_rfl
theorem adi:Tryz.prog.cellsOf 321=64:=by kernel_rfl
end Go.Proofs.YtammlljefhakmaaGreatDoor
