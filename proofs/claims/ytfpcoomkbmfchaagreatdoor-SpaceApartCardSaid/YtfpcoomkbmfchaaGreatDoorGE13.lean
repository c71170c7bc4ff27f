/- Texts of mine, joined: M13. What each says and under which conditions stands at its head, below. -/
import Derived.Test.YtfpcoomkbmfchaaGreatDoorGE12
import Derived.OwnWalk
/- The contract of the document's own Page, layer 2. Conditions: its words lie in a block. -/
namespace Go.Proofs.YtfpcoomkbmfchaaGreatDoor
open Go.RowKit
set_option maxRecDepth 100000

theorem wordInfo : (Tryz.prog.info? 25).map (fun i => (i.zero, i.size, i.bytes)) = some (some (.int .u32 0), 1, 4) := by kernel_rfl
def RPagePost (w : World) (R : List Int) (e : Ending) (w' : World) : Prop := ∃ v, e = .returned (.tuple #[v, .int .i64 0]) ∧ RowAt w' v R ∧ Below w.heap.size w w'
end Go.Proofs.YtfpcoomkbmfchaaGreatDoor
