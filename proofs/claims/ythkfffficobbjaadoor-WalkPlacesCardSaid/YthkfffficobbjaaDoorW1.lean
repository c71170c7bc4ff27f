/- The contracts of the helpers of package word: low, take, at, one. Conditions: the two tables (the masks, and the library's table) read as their initialisers lay them. -/
import Derived.Test.YthkfffficobbjaaDoorRows
import Derived.WalkKit
import Derived.WalkSpells
import Derived.WalkLawsBesides
import Derived.Deep.QuietTactic
import Derived.BigQuiet
import Derived.Lib.Hide
import Derived.Laws.BitsAllLaws
namespace Go.Proofs.YthkfffficobbjaaDoor
open Go.RowKit

/-- The two tables lie as laid. -/
structure LaidW (w : World) : Prop where
  m0 : w.cell? ⟨0, 0, none⟩ = some (.int .u32 1)
  m1 : w.cell? ⟨0, 1, none⟩ = some (.int .u32 2)
  m2 : w.cell? ⟨0, 2, none⟩ = some (.int .u32 4)
  m3 : w.cell? ⟨0, 3, none⟩ = some (.int .u32 261888)
  m4 : w.cell? ⟨0, 4, none⟩ = some (.int .u32 31)
  m5 : w.cell? ⟨0, 5, none⟩ = some (.int .u32 992)
  m6 : w.cell? ⟨0, 6, none⟩ = some (.int .u32 31744)
  m7 : w.cell? ⟨0, 7, none⟩ = some (.int .u32 32736)
  t0 : w.cell? ⟨1, 0, none⟩ = some (.int .u8 0)
  t1 : w.cell? ⟨1, 1, none⟩ = some (.int .u8 1)
  t3 : w.cell? ⟨1, 3, none⟩ = some (.int .u8 2)
  t15 : w.cell? ⟨1, 15, none⟩ = some (.int .u8 8)
  t29 : w.cell? ⟨1, 29, none⟩ = some (.int .u8 5)
  t30 : w.cell? ⟨1, 30, none⟩ = some (.int .u8 10)

theorem cell_lt {w : World} {a : Addr} {v : Value} (h : w.cell? a = some v) : a.block < w.heap.size := by
  by_cases hc : a.block < w.heap.size
  · exact hc
  · simp [World.cell?, Array.getElem?_eq_none (Nat.le_of_not_lt hc)] at h
theorem LaidW.of_cells {w w' : World} (h : LaidW w) (hc : ∀ b o, b < w.heap.size → w'.cell? ⟨b, o, none⟩ = w.cell? ⟨b, o, none⟩) : LaidW w' :=
  have k0 := cell_lt h.m0
  have k1 := cell_lt h.t0
  ⟨(hc _ _ k0).trans h.m0, (hc _ _ k0).trans h.m1, (hc _ _ k0).trans h.m2, (hc _ _ k0).trans h.m3, (hc _ _ k0).trans h.m4, (hc _ _ k0).trans h.m5, (hc _ _ k0).trans h.m6, (hc _ _ k0).trans h.m7, (hc _ _ k1).trans h.t0, (hc _ _ k1).trans h.t1, (hc _ _ k1).trans h.t3, (hc _ _ k1).trans h.t15, (hc _ _ k1).trans h.t29, (hc _ _ k1).trans h.t30⟩

theorem bcell {W w1 : World} (hb : Below W.heap.size W w1) : (∀ b o, b < W.heap.size → w1.cell? ⟨b, o, none⟩ = W.cell? ⟨b, o, none⟩) ∧ (∀ b o, b < W.heap.size → w1.frozen? ⟨b, o, none⟩ = W.frozen? ⟨b, o, none⟩) :=
  ⟨fun b o h => hb.cell (p := ⟨b, o, none⟩) h, fun b o h => hb.frozen (p := ⟨b, o, none⟩) h⟩
theorem LaidW.below {w w' : World} (h : LaidW w) (hb : Below w.heap.size w w') : LaidW w' := h.of_cells (bcell hb).1

set_option maxHeartbeats 400000 in
theorem low_0 (w : World) (h : LaidW w) : Calls Tryd.prog 47 #[.int .i64 0] w fun e w' => e = .returned (.int .i64 0) ∧ w' = w := by
  have h1 := h.m0
  have h2 := h.t0
  have hb : bits BinOp.and IntKind.u32 1 4294967295 = 1 := by decide
  clear h
  go_enter Tryd.func47, Tryd.ntmps47
  go_wp2
  go_ret
  exact ⟨rfl, rfl⟩

set_option maxHeartbeats 400000 in
theorem low_1 (w : World) (h : LaidW w) : Calls Tryd.prog 47 #[.int .i64 1] w fun e w' => e = .returned (.int .i64 1) ∧ w' = w := by
  have h1 := h.m1
  have h2 := h.t1
  have hb : bits BinOp.and IntKind.u32 2 4294967294 = 2 := by decide
  clear h
  go_enter Tryd.func47, Tryd.ntmps47
  go_wp2
  go_ret
  exact ⟨rfl, rfl⟩

set_option maxHeartbeats 400000 in
theorem low_2 (w : World) (h : LaidW w) : Calls Tryd.prog 47 #[.int .i64 2] w fun e w' => e = .returned (.int .i64 2) ∧ w' = w := by
  have h1 := h.m2
  have h2 := h.t3
  have hb : bits BinOp.and IntKind.u32 4 4294967292 = 4 := by decide
  clear h
  go_enter Tryd.func47, Tryd.ntmps47
  go_wp2
  go_ret
  exact ⟨rfl, rfl⟩

set_option maxHeartbeats 400000 in
theorem low_3 (w : World) (h : LaidW w) : Calls Tryd.prog 47 #[.int .i64 3] w fun e w' => e = .returned (.int .i64 8) ∧ w' = w := by
  have h1 := h.m3
  have h2 := h.t15
  have hb : bits BinOp.and IntKind.u32 261888 4294705408 = 256 := by decide
  clear h
  go_enter Tryd.func47, Tryd.ntmps47
  go_wp2
  go_ret
  exact ⟨rfl, rfl⟩

set_option maxHeartbeats 400000 in
theorem low_4 (w : World) (h : LaidW w) : Calls Tryd.prog 47 #[.int .i64 4] w fun e w' => e = .returned (.int .i64 0) ∧ w' = w := by
  have h1 := h.m4
  have h2 := h.t0
  have hb : bits BinOp.and IntKind.u32 31 4294967265 = 1 := by decide
  clear h
  go_enter Tryd.func47, Tryd.ntmps47
  go_wp2
  go_ret
  exact ⟨rfl, rfl⟩

set_option maxHeartbeats 400000 in
theorem low_5 (w : World) (h : LaidW w) : Calls Tryd.prog 47 #[.int .i64 5] w fun e w' => e = .returned (.int .i64 5) ∧ w' = w := by
  have h1 := h.m5
  have h2 := h.t29
  have hb : bits BinOp.and IntKind.u32 992 4294966304 = 32 := by decide
  clear h
  go_enter Tryd.func47, Tryd.ntmps47
  go_wp2
  go_ret
  exact ⟨rfl, rfl⟩

set_option maxHeartbeats 400000 in
theorem low_6 (w : World) (h : LaidW w) : Calls Tryd.prog 47 #[.int .i64 6] w fun e w' => e = .returned (.int .i64 10) ∧ w' = w := by
  have h1 := h.m6
  have h2 := h.t30
  have hb : bits BinOp.and IntKind.u32 31744 4294935552 = 1024 := by decide
  clear h
  go_enter Tryd.func47, Tryd.ntmps47
  go_wp2
  go_ret
  exact ⟨rfl, rfl⟩

set_option maxHeartbeats 400000 in
theorem low_7 (w : World) (h : LaidW w) : Calls Tryd.prog 47 #[.int .i64 7] w fun e w' => e = .returned (.int .i64 5) ∧ w' = w := by
  have h1 := h.m7
  have h2 := h.t29
  have hb : bits BinOp.and IntKind.u32 32736 4294934560 = 32 := by decide
  clear h
  go_enter Tryd.func47, Tryd.ntmps47
  go_wp2
  go_ret
  exact ⟨rfl, rfl⟩

end Go.Proofs.YthkfffficobbjaaDoor
