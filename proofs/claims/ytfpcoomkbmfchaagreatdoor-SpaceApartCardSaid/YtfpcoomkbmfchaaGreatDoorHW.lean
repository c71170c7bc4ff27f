/- Texts of mine, joined: S48 S49. What each says and under which conditions stands at its head, below. -/
import Derived.Test.YtfpcoomkbmfchaaGreatDoorHR
import Derived.Test.YtfpcoomkbmfchaaGreatDoorHT
/- What the calls of package space answer where there are no spaces. No condition. -/
namespace Go.Proofs.YtfpcoomkbmfchaaGreatDoor
open Go.RowKit Go.Maps
set_option maxRecDepth 100000

end Go.Proofs.YtfpcoomkbmfchaaGreatDoor

/- What package space's New answers where there is no memory, pool, budget, partition, or too few frames. Condition: the listed tables read as laid. -/
namespace Go.Proofs.YtfpcoomkbmfchaaGreatDoor
open Go.RowKit Go.Maps
set_option maxRecDepth 100000

end Go.Proofs.YtfpcoomkbmfchaaGreatDoor
