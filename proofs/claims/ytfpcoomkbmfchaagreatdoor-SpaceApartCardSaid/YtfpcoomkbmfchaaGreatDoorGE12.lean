/- Texts of mine, joined: M12. What each says and under which conditions stands at its head, below. -/
import Derived.Test.YtfpcoomkbmfchaaGreatDoorGE
import Derived.Outline
import Derived.IntWalk
/- The contracts of the document's own answers for layer 2: Zero, Copy, Page. Conditions: its words lie in a block. -/
namespace Go.Proofs.YtfpcoomkbmfchaaGreatDoor
open Go.RowKit
set_option maxRecDepth 100000

end Go.Proofs.YtfpcoomkbmfchaaGreatDoor
