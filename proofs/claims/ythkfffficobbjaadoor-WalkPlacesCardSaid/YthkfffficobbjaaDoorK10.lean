/- The contracts of fine, example, awake, layer 3's laws. Conditions: the tables of package word read as laid. -/
import Derived.Test.YthkfffficobbjaaDoorK9
namespace Go.Proofs.YthkfffficobbjaaDoor
open Go.RowKit
set_option maxRecDepth 100000

set_option maxHeartbeats 1000000 in
theorem fine_yes (n : Int) (a : Option Addr) (m c : Nat) (w : World) (h1 : 1 ≤ n) (h2 : n ≤ 12) (h3 : m ≤ 200) :
    Calls Tryd.prog 9 #[.int .i64 n, .slice a m c] w fun e w' => e = .returned (.bool true) ∧ w = w' := by
  have d1 : decide ((1 : Int) ≤ n) = true := decide_eq_true h1
  have d2 : decide (n ≤ 12) = true := decide_eq_true h2
  have d3 : decide ((m : Int) ≤ 200) = true := decide_eq_true (by omega)
  go_enter Tryd.func9, Tryd.ntmps9
  go_wp2
  go_ret
  exact ⟨rfl, rfl⟩
set_option maxHeartbeats 1000000 in
theorem fine_no (n : Int) (a : Option Addr) (m c : Nat) (w : World) (h : ¬ (1 ≤ n ∧ n ≤ 12 ∧ m ≤ 200)) :
    Calls Tryd.prog 9 #[.int .i64 n, .slice a m c] w fun e w' => e = .returned (.bool false) ∧ w = w' := by
  by_cases h1 : 1 ≤ n
  · by_cases h2 : n ≤ 12
    · have d1 : decide ((1 : Int) ≤ n) = true := decide_eq_true h1
      have d2 : decide (n ≤ 12) = true := decide_eq_true h2
      have d3 : decide ((m : Int) ≤ 200) = false := decide_eq_false (by omega)
      have d4 : ¬ (m : Int) ≤ 200 := by omega
      clear h
      go_enter Tryd.func9, Tryd.ntmps9
      go_wp2
      go_ret
      exact ⟨rfl, rfl⟩
    · have d1 : decide ((1 : Int) ≤ n) = true := decide_eq_true h1
      have d2 : decide (n ≤ 12) = false := decide_eq_false h2
      clear h
      go_enter Tryd.func9, Tryd.ntmps9
      go_wp2
      go_ret
      exact ⟨rfl, rfl⟩
  · have d1 : decide ((1 : Int) ≤ n) = false := decide_eq_false h1
    clear h
    go_enter Tryd.func9, Tryd.ntmps9
    go_wp2
    go_ret
    exact ⟨rfl, rfl⟩

abbrev exS : List CellD := [(0, 1, 257), (1, 2, 515)]
abbrev exCells : Obj := .cells #[.int .i64 0, .int .i64 1, .int .u32 257, .int .i64 1, .int .i64 2, .int .u32 515] 66
set_option maxHeartbeats 1000000 in
theorem example_any (w : World) : Calls Tryd.prog 24 #[] w fun e w' => e = .returned (.slice (some ⟨w.heap.size, 0, none⟩) 2 2) ∧ w' = w.alloc exCells := by
  go_enter Tryd.func24, Tryd.ntmps24
  go_wp2
  go_ret
  exact ⟨rfl, rfl⟩
theorem example_at (w : World) : CellsAt (w.alloc exCells) (.slice (some ⟨w.heap.size, 0, none⟩) 2 2) exS := by
  have h : ∀ i, (w.alloc exCells).cell? ⟨w.heap.size, i, none⟩ = (#[Value.int .i64 0, .int .i64 1, .int .u32 257, .int .i64 1, .int .i64 2, .int .u32 515] : Array Value)[i]? := fun i => World.cell?_alloc_new ..
  refine ⟨⟨_, _, rfl, Or.inr ⟨w.heap.size, 0, rfl, by simp, fun i hi => ?_⟩⟩, ?_⟩
  · match i, hi with
    | 0, _ => exact ⟨h 0, h 1, h 2⟩
    | 1, _ => exact ⟨h 3, h 4, h 5⟩
  · intro d hd
    simp only [List.mem_cons, List.not_mem_nil, or_false] at hd
    rcases hd with rfl | rfl <;> decide
theorem ex1 : atE 3 (layL 3 exS) 0 1091 true = (2, 3, 0) := by decide +kernel
theorem ex2 : atE 3 (layL 3 exS) 0 1059 false = (0, 0, 3) := by decide +kernel
theorem ex3 : atE 3 (layL 3 exS) 0 67 false = (0, 0, 2) := by decide +kernel
theorem ex4 : atE 3 (layL 3 exS) 0 32768 false = (0, 0, 1) := by decide +kernel

set_option maxHeartbeats 2000000 in
theorem awake3_any (w : World) (hL : LaidW w) : Calls Tryd.prog 10 #[] w fun e w' => e = .returned (.bool true) ∧ Below w.heap.size w w' := by
  have HL := Lib.hid hL
  have HW : Hid (Words (layL 3 exS)) := Lib.hid (words_lay (example_at w).words)
  clear hL
  go_enter Tryd.func10, Tryd.ntmps10
  go_wp2_with fail
  refine (example_any w).mono ?_
  rintro e w1 ⟨rfl, hw1⟩
  have B1 := Lib.hid (show Below w.heap.size w w1 by rw [hw1]; exact (Below.refl _ _).alloc (Nat.le_refl _) _)
  have E1 := Lib.hid (show CellsAt w1 (.slice (some ⟨w.heap.size, 0, none⟩) 2 2) exS by rw [hw1]; exact example_at w)
  clear hw1
  go_wp2_with fail
  refine (built_in 3 _ exS w1 (by decide) (by decide) (by decide) E1.out).mono ?_
  rintro e w2 ⟨mp, fb, rp, rb, rfl, hD⟩
  have B2 := Lib.hid (B1.out.trans (hD.below.mono B1.out.size))
  have M2 := Lib.hid hD.m
  clear hD
  have b3 : Below w2.heap.size w2 (w2.alloc (.cells #[.slice (some ⟨rb, 0, none⟩) (3 * 32) (3 * 32)] 30)) := (Below.refl _ _).alloc (Nat.le_refl _) _
  have B3 := Lib.hid (B2.out.trans (b3.mono B2.out.size))
  have M3 := Lib.hid (M2.out.below b3)
  clear b3
  go_wp2_with fail
  have C := at_mem mp fb 3 (layL 3 exS) 0 1091 true _ (HL.out.below B3.out) HW.out M3.out (by decide)
  rw [ex1] at C
  refine C.mono ?_
  clear C
  rintro e w4 ⟨rfl, hb⟩
  have B4 := Lib.hid (B3.out.trans (hb.mono B3.out.size))
  have M4 := Lib.hid (M3.out.below hb)
  clear hb
  go_wp2_with fail
  have C := at_mem mp fb 3 (layL 3 exS) 0 1059 false w4 (HL.out.below B4.out) HW.out M4.out (by decide)
  rw [ex2] at C
  refine C.mono ?_
  clear C
  rintro e w5 ⟨rfl, hb⟩
  have B5 := Lib.hid (B4.out.trans (hb.mono B4.out.size))
  have M5 := Lib.hid (M4.out.below hb)
  clear hb
  go_wp2_with fail
  have C := at_mem mp fb 3 (layL 3 exS) 0 67 false w5 (HL.out.below B5.out) HW.out M5.out (by decide)
  rw [ex3] at C
  refine C.mono ?_
  clear C
  rintro e w6 ⟨rfl, hb⟩
  have B6 := Lib.hid (B5.out.trans (hb.mono B5.out.size))
  have M6 := Lib.hid (M5.out.below hb)
  clear hb
  go_wp2_with fail
  have C := at_mem mp fb 3 (layL 3 exS) 0 32768 false w6 (HL.out.below B6.out) HW.out M6.out (by decide)
  rw [ex4] at C
  refine C.mono ?_
  clear C
  rintro e w7 ⟨rfl, hb⟩
  have B7 := Lib.hid (B6.out.trans (hb.mono B6.out.size))
  clear hb
  go_wp2
  go_ret
  exact ⟨rfl, B7.out⟩
end Go.Proofs.YthkfffficobbjaaDoor
