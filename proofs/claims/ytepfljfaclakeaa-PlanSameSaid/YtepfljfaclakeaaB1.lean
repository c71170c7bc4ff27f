/- Bytes as numbers, in lists alone: a number's bytes, the highest first, and the number that bytes are. No condition. -/
import Derived.Test.YtepfljfaclakeaaM5
import Derived.Laws.IdiomStrings
import Derived.Laws.Concat
import Derived.Laws.Strings3
import Derived.Laws.BytesArg
namespace Go.Proofs.Ytepfljfaclakeaa
open Go.RowKit
set_option maxRecDepth 100000

/-- A string of bytes. -/
abbrev strV (l : List UInt8) : Value := .string ⟨l.toArray⟩
/-- Bytes, as a row of cells. -/
def bytesV (l : List UInt8) : Array Value := (l.map fun b => Value.int .u8 (b.toNat : Int)).toArray
/-- The lowest k bytes of a number, the highest of them first. -/
def bytesOf (n : Nat) : Nat → List UInt8
  | 0 => []
  | k + 1 => bytesOf (n / 256) k ++ [UInt8.ofNat (n % 256)]
def numOf (l : List UInt8) : Nat := l.foldl (fun a b => a * 256 + b.toNat) 0

theorem bytesOf_length (n : Nat) : ∀ k, (bytesOf n k).length = k
  | 0 => rfl
  | k + 1 => by rw [bytesOf, List.length_append, bytesOf_length (n / 256) k]; rfl
theorem bytesOf_cons (n : Nat) : ∀ k, bytesOf n (k + 1) = UInt8.ofNat (n / 256 ^ k % 256) :: bytesOf n k
  | 0 => by simp [bytesOf]
  | k + 1 => by
    rw [bytesOf, bytesOf_cons (n / 256) k]
    show _ = _ :: (bytesOf (n / 256) k ++ [UInt8.ofNat (n % 256)])
    rw [List.cons_append, Nat.div_div_eq_div_mul, Nat.pow_succ, Nat.mul_comm 256]
theorem numOf_snoc (l : List UInt8) (b : UInt8) : numOf (l ++ [b]) = numOf l * 256 + b.toNat := by simp [numOf]
theorem numOf_bytesOf : ∀ (k n : Nat), n < 256 ^ k → numOf (bytesOf n k) = n
  | 0, n, h => by simp at h; subst h; rfl
  | k + 1, n, h => by
    rw [bytesOf, numOf_snoc, numOf_bytesOf k (n / 256) (by rw [Nat.pow_succ] at h; omega)]
    have : (UInt8.ofNat (n % 256)).toNat = n % 256 := by simp
    omega
theorem byte_lt (b : UInt8) : b.toNat < 256 := b.toNat_lt
theorem numOf_lt (l : List UInt8) : numOf l < 256 ^ l.length := by
  induction h : l.length generalizing l with
  | zero => rw [List.length_eq_zero_iff.1 h]; decide
  | succ k ih =>
    obtain ⟨m, b, rfl⟩ : ∃ m b, l = m ++ [b] := ⟨l.dropLast, l.getLast (by intro e; simp [e] at h), (List.dropLast_concat_getLast _).symm⟩
    rw [numOf_snoc]
    have := ih m (by simpa using h)
    have := byte_lt b
    rw [Nat.pow_succ]; omega
theorem bytesOf_numOf (l : List UInt8) : bytesOf (numOf l) l.length = l := by
  induction h : l.length generalizing l with
  | zero => rw [List.length_eq_zero_iff.1 h]; rfl
  | succ k ih =>
    obtain ⟨m, b, rfl⟩ : ∃ m b, l = m ++ [b] := ⟨l.dropLast, l.getLast (by intro e; simp [e] at h), (List.dropLast_concat_getLast _).symm⟩
    have hm := ih m (by simpa using h)
    have := byte_lt b
    rw [bytesOf, numOf_snoc, show (numOf m * 256 + b.toNat) / 256 = numOf m by omega, show (numOf m * 256 + b.toNat) % 256 = b.toNat by omega, hm]
    simp
theorem numOf_cons (b : UInt8) (l : List UInt8) : numOf (b :: l) = b.toNat * 256 ^ l.length + numOf l := by
  induction h : l.length generalizing l with
  | zero => rw [List.length_eq_zero_iff.1 h]; simp [numOf]
  | succ k ih =>
    obtain ⟨m, c, rfl⟩ : ∃ m b, l = m ++ [b] := ⟨l.dropLast, l.getLast (by intro e; simp [e] at h), (List.dropLast_concat_getLast _).symm⟩
    have hm := ih m (by simpa using h)
    rw [show b :: (m ++ [c]) = (b :: m) ++ [c] from rfl, numOf_snoc, numOf_snoc, hm, Nat.pow_succ, Nat.add_mul, ← Nat.mul_assoc, Nat.add_assoc]
/-- Bytes, as many of them, rise as their numbers. -/
theorem bytesLess_num : ∀ (l m : List UInt8), l.length = m.length → Op.bytesLess l m = decide (numOf l < numOf m)
  | [], [], _ => rfl
  | a :: l, b :: m, h => by
    have h' : l.length = m.length := by simpa using h
    have ih := bytesLess_num l m h'
    have h1 := numOf_lt l
    have h2 := numOf_lt m
    rw [numOf_cons, numOf_cons, h']
    rw [h'] at h1
    have hab : (a < b) = (a.toNat < b.toNat) := by rw [UInt8.lt_iff_toNat_lt]
    have hba : (b < a) = (b.toNat < a.toNat) := by rw [UInt8.lt_iff_toNat_lt]
    generalize 256 ^ m.length = p at h1 h2 ⊢
    rcases Nat.lt_trichotomy a.toNat b.toNat with hlt | heq | hgt
    · have e : a.toNat * p + numOf l < b.toNat * p + numOf m := by
        have : (a.toNat + 1) * p ≤ b.toNat * p := Nat.mul_le_mul_right _ hlt
        rw [Nat.add_mul] at this; omega
      have hn : a < b := by rw [hab]; exact hlt
      simp [Op.bytesLess, e, hn]
    · have hn : a = b := UInt8.toNat_inj.1 heq
      subst hn
      simp [Op.bytesLess, ih]
    · have e : ¬ a.toNat * p + numOf l < b.toNat * p + numOf m := by
        have : (b.toNat + 1) * p ≤ a.toNat * p := Nat.mul_le_mul_right _ hgt
        rw [Nat.add_mul] at this; omega
      have hn : ¬ a < b := by rw [hab]; omega
      have hn2 : a ≠ b := fun e => by subst e; omega
      simp [Op.bytesLess, e, hn, hn2]

theorem bytesV_size (l : List UInt8) : (bytesV l).size = l.length := by simp [bytesV]
theorem bytesV_get (l : List UInt8) (i : Nat) (h : i < l.length) : (bytesV l)[i]? = some (.int .u8 ((l.getD i 0).toNat : Int)) := by
  simp [bytesV, h]
theorem bytesV_set (l : List UInt8) (i : Nat) (b : UInt8) : (bytesV l).setIfInBounds i (.int .u8 (b.toNat : Int)) = bytesV (l.set i b) := by
  apply Array.ext'
  simp [bytesV, List.map_set]
end Go.Proofs.Ytepfljfaclakeaa
