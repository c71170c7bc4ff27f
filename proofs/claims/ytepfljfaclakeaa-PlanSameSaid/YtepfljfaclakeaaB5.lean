/- The contracts of package octet's number, comes, Num, Text. Condition: the reader lies as New laid it, or is spoilt, or there is none. -/
import Derived.Test.YtepfljfaclakeaaB4
import Derived.Laws.BitsAllLaws
namespace Go.Proofs.Ytepfljfaclakeaa
open Go.RowKit
set_option maxRecDepth 100000

theorem or_byte (q y : Nat) (hq : q < 16777216) (hy : y < 256) : bits BinOp.or IntKind.u32 ((q : Int) * 256) (y : Int) = ((q * 256 + y : Nat) : Int) := by
  have e : (q : Int) * 256 = ((q * 256 : Nat) : Int) := by omega
  rw [e, u32_or_nat _ _ (by omega) (by omega)]
  have := Nat.two_pow_add_eq_or_of_lt (show y < 2 ^ 8 by omega) q
  rw [Nat.mul_comm (2 ^ 8) q] at this
  rw [show q * 256 = q * 2 ^ 8 by omega, ← this]
theorem take_snoc5 (l : List UInt8) (j : Nat) (h : j < l.length) : l.take (j + 1) = l.take j ++ [l.getD j 0] := by
  rw [List.take_succ_eq_append_getElem h]
  simp [List.getD_eq_getElem?_getD, h]
end Go.Proofs.Ytepfljfaclakeaa
