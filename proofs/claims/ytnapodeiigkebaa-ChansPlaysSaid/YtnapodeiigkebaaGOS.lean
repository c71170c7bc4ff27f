/- Texts of mine, joined: OS. What each says and under which conditions stands at its head, below. -/
import Derived.Test.YtnapodeiigkebaaGLF
import Derived.Deep.Slices
import Derived.Lib.SmallJoins
import Derived.ChangeMaps5
/- A string among a law's arguments, opened. No condition. -/
namespace Go.Proofs.Ytnapodeiigkebaa
open Go.ChangeShapes Go.WideShapes Go.ChangeAt Go.RowKit Go.Deep Go.Joins
set_option maxRecDepth 100000

section
variable {H : Type} {enc : TypeId × Value → H} {W : World} {base : Nat}
end
end Go.Proofs.Ytnapodeiigkebaa
