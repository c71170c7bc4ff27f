/- The walk of the law SpaceGuard. Condition: the listed tables lie as laid. -/
import Derived.Test.YtkenipanpimolaaGreatDoorHT
import Derived.Test.YtkenipanpimolaaGreatDoorGNL
namespace Go.Proofs.YtkenipanpimolaaGreatDoor
open Go.RowKit Go.Maps
set_option maxRecDepth 100000

end Go.Proofs.YtkenipanpimolaaGreatDoor
