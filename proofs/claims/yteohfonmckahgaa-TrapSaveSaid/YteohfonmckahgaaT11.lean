/- The walk of TrapWords, layer 4. Condition: the slice that is taken has its words in a block. -/
import Derived.Test.YteohfonmckahgaaT10
namespace Go.Proofs.Yteohfonmckahgaa
open Go.RowKit
set_option maxRecDepth 100000

set_option maxHeartbeats 1000000 in
theorem words_long (T : List Int) (a : Option Addr) (m c : Nat) (W : World) (hm : 100 < m) : Calls Try.prog 3 #[.agg (wordsV T), .slice a m c] W fun e w' => e = .returned (.bool true) ∧ Below W.heap.size W w' := by
  have d1 : decide ((100 : Int) < (m : Int)) = true := decide_eq_true (by omega)
  have d2 : decide (100 < m) = true := decide_eq_true hm
  have B0 := Lib.hid ((Below.refl W.heap.size W).alloc (Nat.le_refl _) (.cells (wordsV T) 26))
  clear hm
  go_enter Try.func3, Try.ntmps3
  go_wp2_with fail
  refine (awake4_any _).mono ?_
  rintro e w1 ⟨rfl, hb⟩
  have B1 := Lib.hid (B0.out.trans (hb.mono B0.out.size))
  clear hb
  go_wp2
  go_ret
  exact ⟨rfl, B1.out⟩

/-- Three traps' boxes. -/
structure Boxes (W w : World) (tb xb yb : Nat) (T U : List Int) : Prop where
  below : Below W.heap.size W w
  t : w.heap[tb]? = some (.cells (wordsV T) 26 (0, 0))
  x : w.heap[xb]? = some (.cells (wordsV U) 26 (0, 0))
  y : w.heap[yb]? = some (.cells (wordsV U) 26 (0, 0))
theorem Boxes.step {W w w' : World} {tb xb yb : Nat} {T U : List Int} (h : Boxes W w tb xb yb T U) (hb : Below w.heap.size w w') : Boxes W w' tb xb yb T U :=
  ⟨h.below.trans (hb.mono h.below.size), below_block hb h.t, below_block hb h.x, below_block hb h.y⟩
theorem Boxes.stepd {W w w' : World} {tb xb yb : Nat} {T U : List Int} (h : Boxes W w tb xb yb T U) (hb : Below w.drew.heap.size w.drew w') : Boxes W w' tb xb yb T U :=
  h.step ⟨hb.os, hb.tape, hb.output, hb.size, hb.block⟩
theorem row_ten {w : World} {b : Nat} (T : List Int) {t : TypeId} (hT : T.length = 10) (h : w.heap[b]? = some (.cells (wordsV T) t (0, 0))) : RowAt w (.slice (some ⟨b, 0, none⟩) 10 10) T :=
  ⟨_, _, by rw [hT], Or.inr ⟨b, 0, rfl, lt_of_block h, fun i hi => by rw [cell_of_row w b _ _ _ _ h, Nat.zero_add]; exact wordsV_get T i hi⟩⟩
/-- A trap's cells, one by one. -/
theorem ten_cells {w : World} {b : Nat} {t : TypeId} {t0 t1 t2 t3 t4 t5 t6 t7 t8 t9 : Int} (h : w.heap[b]? = some (.cells (wordsV [t0, t1, t2, t3, t4, t5, t6, t7, t8, t9]) t (0, 0))) :
    w.cell? ⟨b, 0, none⟩ = some (.int .u32 t0) ∧ w.cell? ⟨b, 1, none⟩ = some (.int .u32 t1) ∧ w.cell? ⟨b, 2, none⟩ = some (.int .u32 t2) ∧ w.cell? ⟨b, 3, none⟩ = some (.int .u32 t3) ∧ w.cell? ⟨b, 4, none⟩ = some (.int .u32 t4) ∧
    w.cell? ⟨b, 5, none⟩ = some (.int .u32 t5) ∧ w.cell? ⟨b, 6, none⟩ = some (.int .u32 t6) ∧ w.cell? ⟨b, 7, none⟩ = some (.int .u32 t7) ∧ w.cell? ⟨b, 8, none⟩ = some (.int .u32 t8) ∧ w.cell? ⟨b, 9, none⟩ = some (.int .u32 t9) := by
  have r : ∀ i, w.cell? ⟨b, i, none⟩ = (wordsV [t0, t1, t2, t3, t4, t5, t6, t7, t8, t9])[i]? := fun i => cell_of_row w b i _ _ _ h
  exact ⟨r 0, r 1, r 2, r 3, r 4, r 5, r 6, r 7, r 8, r 9⟩

set_option maxHeartbeats 4000000 in
theorem words_short (t0 t1 t2 t3 t4 t5 t6 t7 t8 t9 : Int) (a : Option Addr) (c : Nat) (L : List Int) (W : World) (hm : L.length ≤ 100) (hL : RowAt W (.slice a L.length c) L) :
    Calls Try.prog 3 #[.agg (wordsV [t0, t1, t2, t3, t4, t5, t6, t7, t8, t9]), .slice a L.length c] W fun e w' => e = .returned (.bool true) ∧ Below W.heap.size W w' := by
  obtain ⟨T, hT⟩ : ∃ T, T = [t0, t1, t2, t3, t4, t5, t6, t7, t8, t9] := ⟨_, rfl⟩
  have HT10 : Hid (T.length = 10) := Lib.hid (by rw [hT]; rfl)
  rw [← hT]
  have HT := Lib.hid hT
  clear hT
  obtain ⟨m, hmL⟩ : ∃ m, m = L.length := ⟨_, rfl⟩
  have HL : Hid (RowAt W (.slice a m c) L) := Lib.hid (by rw [hmL]; exact hL)
  rw [← hmL] at hm ⊢
  clear hL hmL
  have d1 : decide ((100 : Int) < (m : Int)) = false := decide_eq_false (by omega)
  have d2 : decide (100 < m) = false := decide_eq_false (by omega)
  have hz := trapZ
  have B0 := Lib.hid ((Below.refl W.heap.size W).alloc (Nat.le_refl _) (.cells (wordsV T) 26))
  have X0 := Lib.hid (heap_alloc_new W (.cells (wordsV T) 26))
  go_enter Try.func3, Try.ntmps3
  go_wp2_with fail
  refine (of_any _ L _ (by exact HL.out.below B0.out)).mono ?_
  rintro e w1 ⟨rfl, hb⟩
  have B1 := Lib.hid (B0.out.trans (hb.mono B0.out.size))
  have X1 := Lib.hid (below_block hb X0.out)
  clear hb
  go_wp2_with (refine wpList_store_trap rfl (.tmp 5) (.tmp 16) rfl w1.heap.size z10 (ofT L) 26 rfl rfl (heap_alloc_new w1 _) rfl (ofT_len L) ?_)
  have A2 : Hid (Below w1.heap.size w1 ((w1.alloc (.cells (wordsV z10) 26)).setRow w1.heap.size (wordsV (ofT L)))) := Lib.hid (below_setRow ((Below.refl _ _).alloc (Nat.le_refl _) _) (Nat.le_refl _) _)
  have Y2 : Hid (((w1.alloc (.cells (wordsV z10) 26)).setRow w1.heap.size (wordsV (ofT L))).heap[w1.heap.size]? = some (.cells (wordsV (ofT L)) 26 (0, 0))) := Lib.hid (setRow_heap _ _ _ _ _ _ (heap_alloc_new w1 _))
  generalize (w1.alloc (.cells (wordsV z10) 26)).setRow w1.heap.size (wordsV (ofT L)) = w2 at *
  have B2 := Lib.hid (B1.out.trans (A2.out.mono B1.out.size))
  have X2 := Lib.hid (below_block A2.out X1.out)
  clear A2
  generalize w1.heap.size = xb at *
  refine (rof_any _ L _ (by exact HL.out.below B2.out)).mono ?_
  rintro e w3 ⟨rfl, hb⟩
  have B3 := Lib.hid (B2.out.trans (hb.mono B2.out.size))
  have X3 := Lib.hid (below_block hb X2.out)
  have Y3 := Lib.hid (below_block hb Y2.out)
  clear hb
  go_wp2_with (refine wpList_store_trap rfl (.tmp 7) (.tmp 21) rfl w3.heap.size z10 (ofT L) 26 rfl rfl (heap_alloc_new w3 _) rfl (ofT_len L) ?_)
  have A4 : Hid (Below w3.heap.size w3 ((w3.alloc (.cells (wordsV z10) 26)).setRow w3.heap.size (wordsV (ofT L)))) := Lib.hid (below_setRow ((Below.refl _ _).alloc (Nat.le_refl _) _) (Nat.le_refl _) _)
  have Z4 : Hid (((w3.alloc (.cells (wordsV z10) 26)).setRow w3.heap.size (wordsV (ofT L))).heap[w3.heap.size]? = some (.cells (wordsV (ofT L)) 26 (0, 0))) := Lib.hid (setRow_heap _ _ _ _ _ _ (heap_alloc_new w3 _))
  generalize (w3.alloc (.cells (wordsV z10) 26)).setRow w3.heap.size (wordsV (ofT L)) = w4 at *
  have S4 : Hid (Boxes W w4 W.heap.size xb w3.heap.size T (ofT L)) := Lib.hid ⟨B3.out.trans (A4.out.mono B3.out.size), below_block A4.out X3.out, below_block A4.out Y3.out, Z4.out⟩
  generalize w3.heap.size = yb at *
  have SS : Hid (Boxes W w4 W.heap.size xb yb [t0, t1, t2, t3, t4, t5, t6, t7, t8, t9] (ofT L)) := Lib.hid (by have := S4.out; rwa [HT.out] at this)
  clear S4 A4 Z4 X3 Y3 B3 Y2 X2 B2 X1 B1 X0 B0 hz
  obtain ⟨u0, u1, u2, u3, u4, u5, u6, u7, u8, u9, hU⟩ : ∃ u0 u1 u2 u3 u4 u5 u6 u7 u8 u9, ofT L = [u0, u1, u2, u3, u4, u5, u6, u7, u8, u9] := by
    have h := ofT_len L
    match ofT L, h with
    | [u0, u1, u2, u3, u4, u5, u6, u7, u8, u9], _ => exact ⟨u0, u1, u2, u3, u4, u5, u6, u7, u8, u9, rfl⟩
  rw [hU] at SS ⊢
  clear hU
  generalize ofE L = ec at *
  generalize W.heap.size = tb at SS ⊢
  have hreg := equalIn_regs
  obtain ⟨ca0, ca1, ca2, ca3, ca4, ca5, ca6, ca7, ca8, ca9⟩ := ten_cells SS.out.t; obtain ⟨cb0, cb1, cb2, cb3, cb4, cb5, cb6, cb7, cb8, cb9⟩ := ten_cells SS.out.x; obtain ⟨cd0, cd1, cd2, cd3, cd4, cd5, cd6, cd7, cd8, cd9⟩ := ten_cells SS.out.y
  go_region_held3 (fun w' => (w'.cell? ⟨tb, 0, none⟩ = some (.int .u32 t0) ∧ w'.cell? ⟨tb, 1, none⟩ = some (.int .u32 t1) ∧ w'.cell? ⟨tb, 2, none⟩ = some (.int .u32 t2) ∧ w'.cell? ⟨tb, 3, none⟩ = some (.int .u32 t3) ∧ w'.cell? ⟨tb, 4, none⟩ = some (.int .u32 t4) ∧ w'.cell? ⟨tb, 5, none⟩ = some (.int .u32 t5) ∧ w'.cell? ⟨tb, 6, none⟩ = some (.int .u32 t6) ∧ w'.cell? ⟨tb, 7, none⟩ = some (.int .u32 t7) ∧ w'.cell? ⟨tb, 8, none⟩ = some (.int .u32 t8) ∧ w'.cell? ⟨tb, 9, none⟩ = some (.int .u32 t9)) ∧ (w'.cell? ⟨xb, 0, none⟩ = some (.int .u32 u0) ∧ w'.cell? ⟨xb, 1, none⟩ = some (.int .u32 u1) ∧ w'.cell? ⟨xb, 2, none⟩ = some (.int .u32 u2) ∧ w'.cell? ⟨xb, 3, none⟩ = some (.int .u32 u3) ∧ w'.cell? ⟨xb, 4, none⟩ = some (.int .u32 u4) ∧ w'.cell? ⟨xb, 5, none⟩ = some (.int .u32 u5) ∧ w'.cell? ⟨xb, 6, none⟩ = some (.int .u32 u6) ∧ w'.cell? ⟨xb, 7, none⟩ = some (.int .u32 u7) ∧ w'.cell? ⟨xb, 8, none⟩ = some (.int .u32 u8) ∧ w'.cell? ⟨xb, 9, none⟩ = some (.int .u32 u9)) ∧ (w'.cell? ⟨yb, 0, none⟩ = some (.int .u32 u0) ∧ w'.cell? ⟨yb, 1, none⟩ = some (.int .u32 u1) ∧ w'.cell? ⟨yb, 2, none⟩ = some (.int .u32 u2) ∧ w'.cell? ⟨yb, 3, none⟩ = some (.int .u32 u3) ∧ w'.cell? ⟨yb, 4, none⟩ = some (.int .u32 u4) ∧ w'.cell? ⟨yb, 5, none⟩ = some (.int .u32 u5) ∧ w'.cell? ⟨yb, 6, none⟩ = some (.int .u32 u6) ∧ w'.cell? ⟨yb, 7, none⟩ = some (.int .u32 u7) ∧ w'.cell? ⟨yb, 8, none⟩ = some (.int .u32 u8) ∧ w'.cell? ⟨yb, 9, none⟩ = some (.int .u32 u9))) (go_keep)
    (first
      | (go_at_call 12; refine (words_ok [t0, t1, t2, t3, t4, t5, t6, t7, t8, t9] rfl _).mono ?_; rintro e w5 ⟨b1, rfl, _, hr, hb⟩; have SX : Hid (Boxes W _ tb xb yb [t0, t1, t2, t3, t4, t5, t6, t7, t8, t9] [u0, u1, u2, u3, u4, u5, u6, u7, u8, u9]) := Lib.hid (by first | exact SS.out.step hb | exact SS.out.stepd hb); clear SS; have SS := SX; clear SX; have R1 : Hid (RowAt w5 (.slice (some ⟨b1, 0, none⟩) 10 10) [t0, t1, t2, t3, t4, t5, t6, t7, t8, t9]) := Lib.hid (row_ten _ rfl hr); (try (have RX := Lib.hid (R2.out.below hb); clear R2; have R2 := RX; clear RX)); clear hr hb; clear ca0 ca1 ca2 ca3 ca4 ca5 ca6 ca7 ca8 ca9 cb0 cb1 cb2 cb3 cb4 cb5 cb6 cb7 cb8 cb9 cd0 cd1 cd2 cd3 cd4 cd5 cd6 cd7 cd8 cd9; obtain ⟨ca0, ca1, ca2, ca3, ca4, ca5, ca6, ca7, ca8, ca9⟩ := ten_cells SS.out.t; obtain ⟨cb0, cb1, cb2, cb3, cb4, cb5, cb6, cb7, cb8, cb9⟩ := ten_cells SS.out.x; obtain ⟨cd0, cd1, cd2, cd3, cd4, cd5, cd6, cd7, cd8, cd9⟩ := ten_cells SS.out.y)
      | (go_at_call 13; refine (rwords_ok [t0, t1, t2, t3, t4, t5, t6, t7, t8, t9] rfl _).mono ?_; rintro e w6 ⟨v2, rfl, hr, hb⟩; have SX : Hid (Boxes W _ tb xb yb [t0, t1, t2, t3, t4, t5, t6, t7, t8, t9] [u0, u1, u2, u3, u4, u5, u6, u7, u8, u9]) := Lib.hid (by first | exact SS.out.step hb | exact SS.out.stepd hb); clear SS; have SS := SX; clear SX; have R2 := Lib.hid (hr.rowAt rfl); (try (have RX := Lib.hid (R1.out.below hb); clear R1; have R1 := RX; clear RX)); clear hr hb; clear ca0 ca1 ca2 ca3 ca4 ca5 ca6 ca7 ca8 ca9 cb0 cb1 cb2 cb3 cb4 cb5 cb6 cb7 cb8 cb9 cd0 cd1 cd2 cd3 cd4 cd5 cd6 cd7 cd8 cd9; obtain ⟨ca0, ca1, ca2, ca3, ca4, ca5, ca6, ca7, ca8, ca9⟩ := ten_cells SS.out.t; obtain ⟨cb0, cb1, cb2, cb3, cb4, cb5, cb6, cb7, cb8, cb9⟩ := ten_cells SS.out.x; obtain ⟨cd0, cd1, cd2, cd3, cd4, cd5, cd6, cd7, cd8, cd9⟩ := ten_cells SS.out.y)
      | (go_at_call 8; refine (awake4_any _).mono ?_; rintro e w8 ⟨rfl, hb⟩; have SX : Hid (Boxes W _ tb xb yb [t0, t1, t2, t3, t4, t5, t6, t7, t8, t9] [u0, u1, u2, u3, u4, u5, u6, u7, u8, u9]) := Lib.hid (SS.out.step hb); clear SS; have SS := SX; clear SX hb; clear ca0 ca1 ca2 ca3 ca4 ca5 ca6 ca7 ca8 ca9 cb0 cb1 cb2 cb3 cb4 cb5 cb6 cb7 cb8 cb9 cd0 cd1 cd2 cd3 cd4 cd5 cd6 cd7 cd8 cd9; obtain ⟨ca0, ca1, ca2, ca3, ca4, ca5, ca6, ca7, ca8, ca9⟩ := ten_cells SS.out.t; obtain ⟨cb0, cb1, cb2, cb3, cb4, cb5, cb6, cb7, cb8, cb9⟩ := ten_cells SS.out.x; obtain ⟨cd0, cd1, cd2, cd3, cd4, cd5, cd6, cd7, cd8, cd9⟩ := ten_cells SS.out.y)
      | (go_at_call 11; refine (same_yes _ _ [t0, t1, t2, t3, t4, t5, t6, t7, t8, t9] _ (by simp) R1.out R2.out).mono ?_; rintro e w7 ⟨rfl, hb⟩; have SX : Hid (Boxes W _ tb xb yb [t0, t1, t2, t3, t4, t5, t6, t7, t8, t9] [u0, u1, u2, u3, u4, u5, u6, u7, u8, u9]) := Lib.hid (SS.out.step hb); clear SS; have SS := SX; clear SX hb R1 R2; clear ca0 ca1 ca2 ca3 ca4 ca5 ca6 ca7 ca8 ca9 cb0 cb1 cb2 cb3 cb4 cb5 cb6 cb7 cb8 cb9 cd0 cd1 cd2 cd3 cd4 cd5 cd6 cd7 cd8 cd9; obtain ⟨ca0, ca1, ca2, ca3, ca4, ca5, ca6, ca7, ca8, ca9⟩ := ten_cells SS.out.t; obtain ⟨cb0, cb1, cb2, cb3, cb4, cb5, cb6, cb7, cb8, cb9⟩ := ten_cells SS.out.x; obtain ⟨cd0, cd1, cd2, cd3, cd4, cd5, cd6, cd7, cd8, cd9⟩ := ten_cells SS.out.y))
  all_goals
    have HB := Lib.hid SS.out.below

    go_wp2
    go_ret
    exact ⟨rfl, HB.out⟩
theorem trapWords_walk (T : List Int) (v : Value) (L : List Int) (W : World) (hT : T.length = 10) (hL : RowAt W v L) : Calls Try.prog 3 #[.agg (wordsV T), v] W fun e w' => e = .returned (.bool true) ∧ Below W.heap.size W w' := by
  obtain ⟨a, c, rfl, h⟩ := hL
  by_cases hm : 100 < L.length
  · exact words_long T a L.length c W hm
  match T, hT with
  | [t0, t1, t2, t3, t4, t5, t6, t7, t8, t9], _ => exact words_short t0 t1 t2 t3 t4 t5 t6 t7 t8 t9 a c L W (by omega) ⟨a, c, rfl, h⟩
end Go.Proofs.Yteohfonmckahgaa
