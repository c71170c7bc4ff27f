/- The walk of the law SpaceGuard. Condition: the listed tables lie as laid. -/
import Derived.Test.YtammlljefhakmaaGreatDoorHT
namespace Go.Proofs.YtammlljefhakmaaGreatDoor
open Go.RowKit Go.Maps
set_option maxRecDepth 100000
end Go.Proofs.YtammlljefhakmaaGreatDoor
