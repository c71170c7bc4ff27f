/- Rows of numbers in memory, and the contracts of the document's own Has, Same, New, layer 8. Condition: the rows lie in memory. -/
import Derived.Test.YtammlljefhakmaaGreatDoorGJ
namespace Go.Proofs.YtammlljefhakmaaGreatDoor
open Go.RowKit
set_option maxRecDepth 100000
end Go.Proofs.YtammlljefhakmaaGreatDoor
