/- The contracts of package octet's isWidth, fits, Put. No condition. -/
import Derived.Test.YtepfljfaclakeaaB1
namespace Go.Proofs.Ytepfljfaclakeaa
open Go.RowKit
set_option maxRecDepth 100000

theorem ret_bool {a b : Bool} (h : a = b) : Ending.returned (.bool a) = .returned (.bool b) := by rw [h]
/-- There is such a width. -/
def okW (k : Int) : Prop := 1 ≤ k ∧ k ≤ 4
/-- A row of bytes lies in a block of its own; all below B is as it was. -/
structure ByteRow (B : Nat) (W w : World) (b : Nat) (l : List UInt8) : Prop where
  row : w.heap[b]? = some (.cells (bytesV l) 5 (0, 0))
  below : Below B W w
  le : B ≤ b
theorem ByteRow.cell {B : Nat} {W w : World} {b : Nat} {l : List UInt8} (h : ByteRow B W w b l) (i : Nat) (hi : i < l.length) : w.cell? ⟨b, i, none⟩ = some (.int .u8 ((l.getD i 0).toNat : Int)) := by
  rw [cell_of_row w b _ _ _ _ h.row]; exact bytesV_get l i hi
theorem ByteRow.fr {B : Nat} {W w : World} {b : Nat} {l : List UInt8} (h : ByteRow B W w b l) (i : Nat) : w.frozen? ⟨b, i, none⟩ = false := frozen_of_row w b i _ _ h.row
theorem ByteRow.set {B : Nat} {W w : World} {b : Nat} {l : List UInt8} (h : ByteRow B W w b l) (i : Nat) (c : UInt8) : ByteRow B W (w.setCell ⟨b, i, none⟩ (.int .u8 (c.toNat : Int))) b (l.set i c) := by
  refine ⟨?_, h.below.setCell (p := ⟨b, i, none⟩) h.le _, h.le⟩
  rw [heap_setCell_same w b i _ _ _ h.row, bytesV_set]
theorem ByteRow.drew {B : Nat} {W w : World} {b : Nat} {l : List UInt8} (h : ByteRow B W w b l) : ByteRow B W w.drew b l := ⟨h.row, h.below.drew, h.le⟩
theorem made_bytes (n : Nat) : madeCells #[.int .u8 0] n = bytesV (List.replicate n 0) := by
  apply Array.ext
  · simp [size_madeCells, bytesV]
  · intro i h1 h2
    have h3 : i % 1 = 0 := Nat.mod_one i
    simp [madeCells, bytesV, h3]
theorem byteInfo : (Try.prog.info? 5).map (fun i => (i.zero, i.size, i.bytes)) = some (some (.int .u8 0), 1, 1) := by kernel_rfl
theorem puts_next (m k j i : Nat) (h : k = i + 1 + j) : (List.replicate (k - j) 0 ++ bytesOf m j).set i (UInt8.ofNat (m / 256 ^ j % 256)) = List.replicate (k - (j + 1)) 0 ++ bytesOf m (j + 1) := by
  subst h
  rw [bytesOf_cons, show i + 1 + j - j = i + 1 by omega, show i + 1 + j - (j + 1) = i by omega, List.replicate_succ', List.append_assoc, List.set_append_right _ _ (by simp)]
  simp
def PutRel (w : World) (b k m : Nat) (i n : Value) (wr : World) : Prop := ∃ j : Nat, j ≤ k ∧ i = .int .i64 ((k : Int) - 1 - j) ∧ n = .int .u32 ((m / 256 ^ j : Nat) : Int) ∧ ByteRow w.heap.size w wr b (List.replicate (k - j) 0 ++ bytesOf m j)
/-- What Put answers. -/
def okPut (n : Nat) (k : Int) : Prop := okW k ∧ n < 256 ^ k.toNat
end Go.Proofs.Ytepfljfaclakeaa
