/- Texts of mine, joined: B1 B2 B3 B4 B5 B6. What each says and under which conditions stands at its head, below. -/
import Derived.Test.YtnapodeiigkebaaGC
import Derived.Laws.IdiomStrings
import Derived.Laws.Concat
import Derived.Laws.Strings3
import Derived.Laws.BytesArg
import Derived.Great.BuildSlice
import Derived.Laws.BitsAllLaws
/- Bytes as numbers, in lists alone: a number's bytes, the highest first, and the number that bytes are. No condition. -/
namespace Go.Proofs.Ytnapodeiigkebaa
open Go.RowKit
set_option maxRecDepth 100000

end Go.Proofs.Ytnapodeiigkebaa

/- The contracts of package octet's isWidth, fits, Put. No condition. -/
namespace Go.Proofs.Ytnapodeiigkebaa
open Go.RowKit
set_option maxRecDepth 100000

theorem ret_bool {a b : Bool} (h : a = b) : Ending.returned (.bool a) = .returned (.bool b) := by rw [h]
end Go.Proofs.Ytnapodeiigkebaa

/- The contract of the document's own Put, layer 5. No condition. -/
namespace Go.Proofs.Ytnapodeiigkebaa
open Go.RowKit
set_option maxRecDepth 100000

end Go.Proofs.Ytnapodeiigkebaa

/- The contracts of package octet's New, Fine, Left, spoil, take. Condition: the reader lies as New laid it, or is spoilt, or there is none. -/
namespace Go.Proofs.Ytnapodeiigkebaa
open Go.RowKit
set_option maxRecDepth 100000

/-- Are there so many bytes? -/
def has (s : Option (List UInt8)) (k : Nat) : Prop := ∃ l, s = some l ∧ k ≤ l.length
end Go.Proofs.Ytnapodeiigkebaa

/- The contracts of package octet's number, comes, Num, Text. Condition: the reader lies as New laid it, or is spoilt, or there is none. -/
namespace Go.Proofs.Ytnapodeiigkebaa
open Go.RowKit
set_option maxRecDepth 100000

end Go.Proofs.Ytnapodeiigkebaa

/- The contracts of package octet's Num and Text, as steps of a reader's state. Condition: the reader lies as New laid it, or is spoilt, or there is none. -/
namespace Go.Proofs.Ytnapodeiigkebaa
open Go.RowKit
set_option maxRecDepth 100000

end Go.Proofs.Ytnapodeiigkebaa
