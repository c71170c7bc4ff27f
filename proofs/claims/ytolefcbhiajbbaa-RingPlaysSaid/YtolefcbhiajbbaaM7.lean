/- The contract of awake, layer 2's laws: it returns true. No condition. -/
import Derived.Test.YtolefcbhiajbbaaM6
namespace Go.Proofs.Ytolefcbhiajbbaa
open Go.RowKit
set_option maxRecDepth 100000

end Go.Proofs.Ytolefcbhiajbbaa
