/- The walk of the law SpaceGuard. Condition: the listed tables lie as laid. -/
import Derived.Test.YtfpcoomkbmfchaaGreatDoorHT
import Derived.Test.YtfpcoomkbmfchaaGreatDoorGNL
namespace Go.Proofs.YtfpcoomkbmfchaaGreatDoor
open Go.RowKit Go.Maps
set_option maxRecDepth 100000

theorem LaidN.awake {W : World} (hL : LaidN W) (V : World) (hb : Below W.heap.size W V) : Calls Tryz.prog 27 #[] V fun e w' => e = .returned (.bool true) ∧ Below V.heap.size V w' := awake16 V (hL.lq.below hb) (hL.lw.below hb)
end Go.Proofs.YtfpcoomkbmfchaaGreatDoor
