/- The contracts of package walk and of the document's own walk, by what their answers are equal to. Conditions: the tables of package word read as laid. -/
import Derived.Test.YthkfffficobbjaaDoorK11
namespace Go.Proofs.YthkfffficobbjaaDoor
open Go.RowKit
set_option maxRecDepth 100000

theorem at_eq {n : Nat} {L : List Int} {root va : Int} {wr : Bool} {a b f : Int} (h : atE n L root va wr = (a, b, f)) (mp fb : Nat) (w : World) (hL : LaidW w) (hW : Words L) (hm : MemSt w mp fb n L) (h0 : 0 ≤ va) :
    Calls Tryd.prog 12 #[.pointer (some ⟨mp, 0, none⟩), .int .i64 root, .int .u32 va, .bool wr] w fun e w' => e = .returned (.tuple #[.int .i64 a, .int .i64 b, .int .u8 f]) ∧ Below w.heap.size w w' := by
  have C := at_mem mp fb n L root va wr w hL hW hm h0
  rw [h] at C
  exact C
theorem rat_eq {n : Nat} {L : List Int} {root va : Int} {wr : Bool} {a b f : Int} (h : atE n L root va wr = (a, b, f)) (rp rb : Nat) (w : World) (hW : Words L) (hr : RefSt w rp rb n L) (h0 : 0 ≤ va) :
    Calls Tryd.prog 13 #[refV rb n, .int .i64 root, .int .u32 va, .bool wr] w fun e w' => e = .returned (.tuple #[.int .i64 a, .int .i64 b, .int .u8 f]) ∧ Below w.heap.size w w' := by
  have C := rat_any rp rb n L root va wr w hW hr h0
  rw [h] at C
  exact C
theorem look_eq {n : Nat} {L : List Int} {root pg : Int} {p x c : Bool} {g k : Int} (h : lookE n L root pg = ((p, x, c, g), k)) (mp fb : Nat) (w : World) (hL : LaidW w) (hW : Words L) (hm : MemSt w mp fb n L) :
    Calls Tryd.prog 14 #[.pointer (some ⟨mp, 0, none⟩), .int .i64 root, .int .i64 pg] w fun e w' => e = .returned (.tuple #[ent p x c g, .int .i64 k]) ∧ Below w.heap.size w w' := by
  have C := look_mem mp fb n L root pg w hL hW hm
  rw [h] at C
  exact C
theorem rlook_eq {n : Nat} {L : List Int} {root pg : Int} {p x c : Bool} {g k : Int} (h : lookE n L root pg = ((p, x, c, g), k)) (rp rb : Nat) (w : World) (hW : Words L) (hr : RefSt w rp rb n L) :
    Calls Tryd.prog 15 #[refV rb n, .int .i64 root, .int .i64 pg] w fun e w' => e = .returned (.tuple #[ent p x c g, .int .i64 k]) ∧ Below w.heap.size w w' := by
  have C := rlook_any rp rb n L root pg w hW hr
  rw [h] at C
  exact C
theorem load_eq {n : Nat} {L : List Int} {root va v f : Int} (h : loadE n L root va = (v, f)) (mp fb : Nat) (w : World) (hL : LaidW w) (hW : Words L) (hm : MemSt w mp fb n L) (h0 : 0 ≤ va) :
    Calls Tryd.prog 16 #[.pointer (some ⟨mp, 0, none⟩), .int .i64 root, .int .u32 va] w fun e w' => e = .returned (.tuple #[.int .u32 v, .int .u8 f]) ∧ Below w.heap.size w w' := by
  have C := load_mem mp fb n L root va w hL hW hm h0
  rw [h] at C
  exact C
theorem store_eq {n : Nat} {L : List Int} {root va a b f : Int} (h : atE n L root va true = (a, b, f)) (v : Int) (mp fb : Nat) (w : World) (hL : LaidW w) (hW : Words L) (hm : MemSt w mp fb n L) (h0 : 0 ≤ va) :
    Calls Tryd.prog 18 #[.pointer (some ⟨mp, 0, none⟩), .int .i64 root, .int .u32 va, .int .u32 v] w fun e w' => e = .returned (.int .u8 f) ∧ Puts w w' mp fb n (storeL n L root va v) := by
  have C := store_mem mp fb n L root va v w hL hW hm h0
  rw [h] at C
  exact C
end Go.Proofs.YthkfffficobbjaaDoor
