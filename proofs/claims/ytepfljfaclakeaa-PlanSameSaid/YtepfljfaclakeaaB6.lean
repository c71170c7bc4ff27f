/- The contracts of package octet's Num and Text, as steps of a reader's state. Condition: the reader lies as New laid it, or is spoilt, or there is none. -/
import Derived.Test.YtepfljfaclakeaaB5
namespace Go.Proofs.Ytepfljfaclakeaa
open Go.RowKit
set_option maxRecDepth 100000

abbrev RdS := Option (List UInt8)
/-- The number that comes next, and what is left behind it. -/
noncomputable def numS (s : RdS) (k : Int) : Nat × RdS := open Classical in
  match s with
  | some l => if okW k ∧ k.toNat ≤ l.length then (numOf (l.take k.toNat), some (l.drop k.toNat)) else (0, none)
  | none => (0, none)
/-- Do some bytes come next, and what is left behind them. -/
noncomputable def textS (s : RdS) (t : List UInt8) : Bool × RdS := open Classical in
  match s with
  | some l => if t.length ≤ l.length ∧ l.take t.length = t then (true, some (l.drop t.length)) else (false, none)
  | none => (false, none)
end Go.Proofs.Ytepfljfaclakeaa
