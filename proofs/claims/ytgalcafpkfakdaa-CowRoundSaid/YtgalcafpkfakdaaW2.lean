/- The contracts of the helpers take, at and one of package word: what stands in a field, a field as a word, a bool as a number. Conditions: the two tables read as laid; the word is a word, the number fits its field. -/
import Derived.Test.YtgalcafpkfakdaaW1
namespace Go.Proofs.Ytgalcafpkfakdaa
open Go.RowKit
set_option maxRecDepth 100000

theorem and_field (a l n : Nat) : a &&& ((2 ^ n - 1) <<< l) = (a / 2 ^ l % 2 ^ n) * 2 ^ l := by
  rw [← Nat.shiftLeft_eq, ← Nat.shiftRight_eq_div_pow]
  apply Nat.eq_of_testBit_eq
  intro i
  simp only [Nat.testBit_and, Nat.testBit_shiftLeft, Nat.testBit_two_pow_sub_one, Nat.testBit_mod_two_pow, Nat.testBit_shiftRight]
  by_cases h : l ≤ i
  · have e : l + (i - l) = i := by omega
    simp [h, e, Bool.and_comm]
  · simp [h]

theorem mask_0 (a : Int) (h0 : 0 ≤ a) (h1 : a < 4294967296) : bits BinOp.and IntKind.u32 a 1 = (a / 1 % 2) * 1 := by
  obtain ⟨A, rfl⟩ := Int.eq_ofNat_of_zero_le h0
  rw [u32_and (A : Int) 1 h0 h1 (by omega) (by omega)]
  have := and_field A 0 1
  simp only [show ((2 ^ 1 - 1) <<< 0 : Nat) = 1 from by decide, show (2 ^ 0 : Nat) = 1 from by decide, show (2 ^ 1 : Nat) = 2 from by decide] at this
  simp only [Int.toNat_natCast, show ((1 : Int).toNat) = 1 from rfl, this]
  omega
theorem mask_1 (a : Int) (h0 : 0 ≤ a) (h1 : a < 4294967296) : bits BinOp.and IntKind.u32 a 2 = (a / 2 % 2) * 2 := by
  obtain ⟨A, rfl⟩ := Int.eq_ofNat_of_zero_le h0
  rw [u32_and (A : Int) 2 h0 h1 (by omega) (by omega)]
  have := and_field A 1 1
  simp only [show ((2 ^ 1 - 1) <<< 1 : Nat) = 2 from by decide, show (2 ^ 1 : Nat) = 2 from by decide] at this
  simp only [Int.toNat_natCast, show ((2 : Int).toNat) = 2 from rfl, this]
  omega
theorem mask_2 (a : Int) (h0 : 0 ≤ a) (h1 : a < 4294967296) : bits BinOp.and IntKind.u32 a 4 = (a / 4 % 2) * 4 := by
  obtain ⟨A, rfl⟩ := Int.eq_ofNat_of_zero_le h0
  rw [u32_and (A : Int) 4 h0 h1 (by omega) (by omega)]
  have := and_field A 2 1
  simp only [show ((2 ^ 1 - 1) <<< 2 : Nat) = 4 from by decide, show (2 ^ 2 : Nat) = 4 from by decide, show (2 ^ 1 : Nat) = 2 from by decide] at this
  simp only [Int.toNat_natCast, show ((4 : Int).toNat) = 4 from rfl, this]
  omega
theorem mask_3 (a : Int) (h0 : 0 ≤ a) (h1 : a < 4294967296) : bits BinOp.and IntKind.u32 a 261888 = (a / 256 % 1024) * 256 := by
  obtain ⟨A, rfl⟩ := Int.eq_ofNat_of_zero_le h0
  rw [u32_and (A : Int) 261888 h0 h1 (by omega) (by omega)]
  have := and_field A 8 10
  simp only [show ((2 ^ 10 - 1) <<< 8 : Nat) = 261888 from by decide, show (2 ^ 8 : Nat) = 256 from by decide, show (2 ^ 10 : Nat) = 1024 from by decide] at this
  simp only [Int.toNat_natCast, show ((261888 : Int).toNat) = 261888 from rfl, this]
  omega
theorem mask_4 (a : Int) (h0 : 0 ≤ a) (h1 : a < 4294967296) : bits BinOp.and IntKind.u32 a 31 = (a / 1 % 32) * 1 := by
  obtain ⟨A, rfl⟩ := Int.eq_ofNat_of_zero_le h0
  rw [u32_and (A : Int) 31 h0 h1 (by omega) (by omega)]
  have := and_field A 0 5
  simp only [show ((2 ^ 5 - 1) <<< 0 : Nat) = 31 from by decide, show (2 ^ 0 : Nat) = 1 from by decide, show (2 ^ 5 : Nat) = 32 from by decide] at this
  simp only [Int.toNat_natCast, show ((31 : Int).toNat) = 31 from rfl, this]
  omega
theorem mask_5 (a : Int) (h0 : 0 ≤ a) (h1 : a < 4294967296) : bits BinOp.and IntKind.u32 a 992 = (a / 32 % 32) * 32 := by
  obtain ⟨A, rfl⟩ := Int.eq_ofNat_of_zero_le h0
  rw [u32_and (A : Int) 992 h0 h1 (by omega) (by omega)]
  have := and_field A 5 5
  simp only [show ((2 ^ 5 - 1) <<< 5 : Nat) = 992 from by decide, show (2 ^ 5 : Nat) = 32 from by decide] at this
  simp only [Int.toNat_natCast, show ((992 : Int).toNat) = 992 from rfl, this]
  omega
theorem mask_6 (a : Int) (h0 : 0 ≤ a) (h1 : a < 4294967296) : bits BinOp.and IntKind.u32 a 31744 = (a / 1024 % 32) * 1024 := by
  obtain ⟨A, rfl⟩ := Int.eq_ofNat_of_zero_le h0
  rw [u32_and (A : Int) 31744 h0 h1 (by omega) (by omega)]
  have := and_field A 10 5
  simp only [show ((2 ^ 5 - 1) <<< 10 : Nat) = 31744 from by decide, show (2 ^ 10 : Nat) = 1024 from by decide, show (2 ^ 5 : Nat) = 32 from by decide] at this
  simp only [Int.toNat_natCast, show ((31744 : Int).toNat) = 31744 from rfl, this]
  omega
theorem mask_7 (a : Int) (h0 : 0 ≤ a) (h1 : a < 4294967296) : bits BinOp.and IntKind.u32 a 32736 = (a / 32 % 1024) * 32 := by
  obtain ⟨A, rfl⟩ := Int.eq_ofNat_of_zero_le h0
  rw [u32_and (A : Int) 32736 h0 h1 (by omega) (by omega)]
  have := and_field A 5 10
  simp only [show ((2 ^ 10 - 1) <<< 5 : Nat) = 32736 from by decide, show (2 ^ 5 : Nat) = 32 from by decide, show (2 ^ 10 : Nat) = 1024 from by decide] at this
  simp only [Int.toNat_natCast, show ((32736 : Int).toNat) = 32736 from rfl, this]
  omega
/-- What the helper one tells. -/
def bit (b : Bool) : Int := if b then 1 else 0
end Go.Proofs.Ytgalcafpkfakdaa
