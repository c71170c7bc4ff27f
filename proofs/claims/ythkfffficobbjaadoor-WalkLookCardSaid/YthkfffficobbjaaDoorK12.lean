/- The walk of the law WalkLook. Conditions: the tables of package word read as laid; the words to lay can be read. -/
import Derived.Test.YthkfffficobbjaaDoorKE
namespace Go.Proofs.YthkfffficobbjaaDoor
open Go.RowKit
set_option maxRecDepth 100000

set_option maxHeartbeats 1000000 in
theorem walkLook_no (n : Int) (m : Nat) (a : Option Addr) (c : Nat) (root pg : Int) (W : World) (h : LawOut W n m a c) :
    Calls Tryd.prog 4 #[.int .i64 n, .slice a m c, .int .i64 root, .int .i64 pg] W fun e w' => e = .returned (.bool true) ∧ Below W.heap.size W w' := by
  have H := Lib.hid h
  clear h
  go_enter Tryd.func4, Tryd.ntmps4
  go_wp2_with fail
  refine H.out.fine.mono ?_
  rintro e w1 ⟨rfl, rfl⟩
  go_wp2_with fail
  refine (awake3_any W H.out.laid).mono ?_
  rintro e w1 ⟨rfl, hb⟩
  have B := Lib.hid hb
  clear hb
  go_wp2
  go_ret
  exact ⟨rfl, B.out⟩
set_option maxHeartbeats 4000000 in
theorem walkLook_in (n m : Nat) (a : Option Addr) (c : Nat) (L : List Int) (root pg : Int) (W : World) (h : LawIn W n m a c L) :
    Calls Tryd.prog 4 #[.int .i64 n, .slice a m c, .int .i64 root, .int .i64 pg] W fun e w' => e = .returned (.bool true) ∧ Below W.heap.size W w' := by
  have H := Lib.hid h
  clear h
  obtain ⟨⟨⟨p, x, c', g⟩, k⟩, hr⟩ : ∃ r, lookE n L root pg = r := ⟨_, rfl⟩
  have HR := Lib.hid hr
  clear hr
  go_enter Tryd.func4, Tryd.ntmps4
  go_wp2_with fail
  refine H.out.fine.mono ?_
  rintro e w1 ⟨rfl, rfl⟩
  go_wp2_with fail
  refine H.out.built.mono ?_
  rintro e w2 ⟨mp, fb, rp, rb, rfl, hD⟩
  obtain ⟨w3, hw3⟩ : ∃ w3, w3 = w2.alloc (.cells #[.slice (some ⟨rb, 0, none⟩) (n * 32) (n * 32)] 30) := ⟨_, rfl⟩
  have D3 := Lib.hid (show Duo W mp fb w2.heap.size rb n L L w3 by rw [hw3]; exact hD.rebox)
  clear hD
  go_wp2_with fail
  rw [← hw3]
  clear hw3
  refine (look_eq HR.out mp fb w3 (H.out.laid.below D3.out.below) H.out.words D3.out.m).mono ?_
  rintro e w4 ⟨rfl, hb⟩
  have D4 := Lib.hid (D3.out.step hb)
  have b5 : Below w4.heap.size w4 (w4.alloc (.cells #[.bool p, .bool x, .bool c', .int .i64 g] 39)) := (Below.refl _ _).alloc (Nat.le_refl _) _
  have D5 := Lib.hid (D4.out.step b5)
  have X5 := Lib.hid (heap_alloc_new w4 (.cells #[.bool p, .bool x, .bool c', .int .i64 g] 39))
  have cb := D4.out.r.cellB
  have hlt : w2.heap.size < w4.heap.size := lt_of_block D4.out.r.box
  clear hb b5
  go_wp2_with fail
  refine (rlook_eq HR.out w2.heap.size rb _ H.out.words D5.out.r).mono ?_
  rintro e w6 ⟨rfl, hb⟩
  have D6 := Lib.hid (D5.out.step hb)
  have X6 := Lib.hid (below_block hb X5.out)
  have b7 : Below w6.heap.size w6 (w6.alloc (.cells #[.bool p, .bool x, .bool c', .int .i64 g] 39)) := (Below.refl _ _).alloc (Nat.le_refl _) _
  have D7 := Lib.hid (D6.out.step b7)
  have X7 := Lib.hid (below_block b7 X6.out)
  have Y7 := Lib.hid (heap_alloc_new w6 (.cells #[.bool p, .bool x, .bool c', .int .i64 g] 39))
  clear hb b7 cb hlt
  go_wp2_with fail
  refine (look_nil none root pg _ (Or.inl rfl)).mono ?_
  rintro e w8 ⟨rfl, hb⟩
  have D8 := Lib.hid (D7.out.step hb)
  have X8 := Lib.hid (below_block hb X7.out)
  have Y8 := Lib.hid (below_block hb Y7.out)
  obtain ⟨x0, x1, x2, x3, _⟩ := box4 X8.out
  obtain ⟨y0, y1, y2, y3, _⟩ := box4 Y8.out
  have hl1 : w4.heap.size < w8.heap.size := lt_of_block X8.out
  have hl2 : w6.heap.size < w8.heap.size := lt_of_block Y8.out
  have D9 := Lib.hid (D8.out.step ((Below.refl _ _).alloc (Nat.le_refl _) (.cells #[.bool false, .bool false, .bool false, .int .i64 0] 39)))
  clear hb
  go_wp2_with fail
  refine (awake3_any _ (H.out.laid.below D9.out.below)).mono ?_
  rintro e w10 ⟨rfl, hb⟩
  have D10 := Lib.hid (D9.out.step hb)
  clear hb
  go_wp2
  go_ret
  exact ⟨rfl, D10.out.below⟩
theorem walkLook_walk (n : Int) (v : Value) (S : List CellD) (root pg : Int) (W : World) (_hn : -9223372036854775808 ≤ n ∧ n ≤ 9223372036854775807) (hS : CellsAt W v S) (_hroot : -9223372036854775808 ≤ root ∧ root ≤ 9223372036854775807) (_hpg : -9223372036854775808 ≤ pg ∧ pg ≤ 9223372036854775807) (hL : LaidW W) :
    Calls Tryd.prog 4 #[.int .i64 n, v, .int .i64 root, .int .i64 pg] W fun e w' => e = .returned (.bool true) ∧ Below W.heap.size W w' := by
  rcases lawAny (n := n) hS hL with ⟨m, a, c, rfl, h⟩ | ⟨k, m, a, c, L, rfl, rfl, h⟩
  · exact walkLook_no n m a c root pg W h
  · exact walkLook_in k m a c L root pg W h
end Go.Proofs.YthkfffficobbjaaDoor
