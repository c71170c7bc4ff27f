/- The walk of MemChain. No condition. -/
import Derived.Test.YtolefcbhiajbbaaM9
namespace Go.Proofs.Ytolefcbhiajbbaa
open Go.RowKit
set_option maxRecDepth 100000

end Go.Proofs.Ytolefcbhiajbbaa
