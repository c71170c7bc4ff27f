/- The contract of find, package walk: the walk from a root to the entry of an address's page. Conditions: the tables of package word read as laid; the memory lies as made, or there is none. -/
import Derived.Test.YthkfffficobbjaaDoorK2
import Derived.WalkMore
namespace Go.Proofs.YthkfffficobbjaaDoor
open Go.RowKit
set_option maxRecDepth 100000

theorem idx0 (a b c d : Value) (w : World) : (Instr.index 91 (.agg #[a, b, c, d]) (.int .i64 0)).run Tryd.prog w = .ok (.agg #[a, b]) w := by
  simp [Instr.index, run_underlying Tryd.underlying91, asIntOf, go_sem]
theorem idx1 (a b c d : Value) (w : World) : (Instr.index 91 (.agg #[a, b, c, d]) (.int .i64 1)).run Tryd.prog w = .ok (.agg #[c, d]) w := by
  simp [Instr.index, run_underlying Tryd.underlying91, asIntOf, go_sem]

/-- What lies behind the call's start: the result's cells, and old memory as it was. -/
structure FindSt (w w1 : World) (p x c : Bool) (f : Int) : Prop where
  below : Below w.heap.size w w1
  res : w1.heap[w.heap.size]? = some (.cells #[.bool p, .bool x, .bool c, .int .i64 f] 39 (0, 0))
theorem FindSt.start (w : World) : FindSt w (w.alloc (.cells #[.bool false, .bool false, .bool false, .int .i64 0] 39)) false false false 0 := ⟨(Below.refl _ _).alloc (Nat.le_refl _) _, heap_alloc_new w _⟩
theorem FindSt.step {w w1 w2 : World} {p x c : Bool} {f : Int} (h : FindSt w w1 p x c f) (hb : Below w1.heap.size w1 w2) : FindSt w w2 p x c f := ⟨h.below.trans (hb.mono h.below.size), below_block hb h.res⟩
theorem FindSt.go {w w1 w2 : World} {p x c : Bool} {f : Int} {kb : Nat} {po : Option Addr} {g : Int} (h : FindSt w w1 p x c f) (hk : w.heap.size < kb) (hg : WkGo w1 w2 kb po g) : FindSt w w2 p x c f :=
  ⟨h.below.trans (below_of_grownBy hg.grown h.below.size (Nat.le_of_lt hk)), (hg.grown.block _ (lt_of_block h.res) (fun e => by have := Option.some.inj e; omega)).trans h.res⟩
/-- Four cells of the result are put. -/
def put4 (w w1 : World) (p x c : Bool) (f : Int) : World := (((w1.setCell ⟨w.heap.size, 0, none⟩ (.bool p)).setCell ⟨w.heap.size, 1, none⟩ (.bool x)).setCell ⟨w.heap.size, 2, none⟩ (.bool c)).setCell ⟨w.heap.size, 3, none⟩ (.int .i64 f)
theorem FindSt.put {w w1 : World} {p x c : Bool} {f : Int} (h : FindSt w w1 p x c f) (p' x' c' : Bool) (f' : Int) : FindSt w (put4 w w1 p' x' c' f') p' x' c' f' := by
  refine ⟨below_four h.below _ _ _ _, ?_⟩
  have h0 := heap_setCell_same w1 w.heap.size 0 _ _ (.bool p') h.res
  have h1 := heap_setCell_same _ w.heap.size 1 _ _ (.bool x') h0
  have h2 := heap_setCell_same _ w.heap.size 2 _ _ (.bool c') h1
  exact heap_setCell_same _ w.heap.size 3 _ _ (.int .i64 f') h2
theorem put4_block {w w1 : World} {k : Nat} {o : Obj} (hk : k ≠ w.heap.size) (h : w1.heap[k]? = some o) (p x c : Bool) (f : Int) : (put4 w w1 p x c f).heap[k]? = some o := by
  unfold put4
  rw [Below.heap_setCell _ _ _ _ hk, Below.heap_setCell _ _ _ _ hk, Below.heap_setCell _ _ _ _ hk, Below.heap_setCell _ _ _ _ hk]
  exact h

set_option maxHeartbeats 1000000 in
theorem find_range (p : Option Addr) (root va : Int) (w : World) (h : 32768 ≤ va) :
    Calls Tryd.prog 28 #[.pointer p, .int .i64 root, .int .u32 va] w fun e w' => e = .returned (.tuple #[ent false false false 0, .int .i64 0, .int .u8 1]) ∧ Below w.heap.size w w' := by
  go_enter Tryd.func28, Tryd.ntmps28
  go_wp2_with fail
  obtain ⟨w0, hw0⟩ : ∃ w0, w0 = w.alloc (.cells #[.bool false, .bool false, .bool false, .int .i64 0] 39) := ⟨_, rfl⟩
  have S0 := Lib.hid (show FindSt w w0 false false false 0 by rw [hw0]; exact FindSt.start w)
  rw [← hw0]
  clear hw0
  go_step3
  go_wp2_with fail
  refine (cut_no va _ h).mono ?_
  rintro e w1 ⟨rfl, rfl⟩
  obtain ⟨r0, r1, r2, r3, rf⟩ := box4 S0.out.res
  have f0 := rf 0
  have f1 := rf 1
  have f2 := rf 2
  have f3 := rf 3
  clear rf
  go_wp2
  rw [Exit.noGoto_ret]
  exact bodyPost_ret (v := .tuple #[ent false false false 0, .int .i64 0, .int .u8 1]) (by simp [results, Tryd.results28, go_sem, r0, r1, r2, r3]) rfl ⟨rfl, below_four S0.out.below _ _ _ _⟩


set_option maxHeartbeats 2000000 in
/-- The root's word is none. -/
theorem find_one (p : Option Addr) (root va : Int) (w : World) (h0 : 0 ≤ va) (h1 : va < 32768) (hL : LaidW w)
    (hs1 : ∀ W kb, Below w.heap.size w W → WkSt W kb p root → Calls Tryd.prog 40 #[.pointer (some ⟨kb, 0, none⟩), .int .i64 (va / 1024)] W fun e w' => e = .returned (.tuple #[ent false false false 0, .int .u8 6]) ∧ Below W.heap.size W w') :
    Calls Tryd.prog 28 #[.pointer p, .int .i64 root, .int .u32 va] w fun e w' => e = .returned (.tuple #[ent false false false 0, .int .i64 0, .int .u8 6]) ∧ Below w.heap.size w w' := by
  have HL := Lib.hid hL
  have hmf : ∀ (fn : Fn) (first cap : Array Value) (w : World), (Instr.makeFunc fn first cap).run Tryd.prog w = .ok (.func fn first cap) w := fun _ _ _ _ => rfl
  have hx0 := idx0
  have hx1 := idx1
  have HS1 := Lib.hid hs1
  clear hs1 hL
  go_enter Tryd.func28, Tryd.ntmps28
  go_wp2_with fail
  obtain ⟨w0, hw0⟩ : ∃ w0, w0 = w.alloc (.cells #[.bool false, .bool false, .bool false, .int .i64 0] 39) := ⟨_, rfl⟩
  have S0 := Lib.hid (show FindSt w w0 false false false 0 by rw [hw0]; exact FindSt.start w)
  rw [← hw0]
  clear hw0
  go_step3
  go_wp2_with fail
  refine (cut_yes va w0 h0 h1 (by exact HL.out.below S0.out.below)).mono ?_
  rintro e w1 ⟨rfl, n1, hw1⟩
  have S1 := Lib.hid (S0.out.step (show Below w0.heap.size w0 w1 by rw [hw1]; exact below_drewN (Below.refl _ _) n1))
  clear hw1 n1
  go_wp2_with fail
  obtain ⟨w2, hw2⟩ : ∃ w2, w2 = w1.alloc (.cells #[.pointer p, .int .i64 root] 87) := ⟨_, rfl⟩
  have S2 := Lib.hid (S1.out.step (show Below w1.heap.size w1 w2 by rw [hw2]; exact (Below.refl _ _).alloc (Nat.le_refl _) _))
  have K2 : Hid (WkSt w2 w1.heap.size p root) := Lib.hid (by rw [hw2]; exact heap_alloc_new w1 _)
  have HK : Hid (w.heap.size < w1.heap.size) := Lib.hid (lt_of_block S1.out.res)
  rw [← hw2]
  clear hw2
  go_step3
  go_wp2_with fail
  refine wp_loop_rounds 3 ?_
  rw [rounds_succ]
  go_wp2_with fail
  obtain ⟨w3, hw3⟩ : ∃ w3, w3 = w2.alloc (.cells #[.int .i64 (va / 1024), .int .u8 2] 90) := ⟨_, rfl⟩
  have A3 : Hid (Below w2.heap.size w2 w3) := Lib.hid (by rw [hw3]; exact (Below.refl _ _).alloc (Nat.le_refl _) _)
  have L3 : Hid (w3.heap[w2.heap.size]? = some (.cells #[.int .i64 (va / 1024), .int .u8 2] 90 (0, 0))) := Lib.hid (by rw [hw3]; exact heap_alloc_new w2 _)
  have S3 := Lib.hid (S2.out.step A3.out)
  have K3 := Lib.hid (K2.out.below A3.out)
  have HKL3 : Hid (w1.heap.size ≠ w2.heap.size) := Lib.hid (fun e => by have := lt_of_block K2.out; omega)
  have HRL3 : Hid (w2.heap.size ≠ w.heap.size) := Lib.hid (fun e => by have := lt_of_block S2.out.res; omega)
  rw [← hw3]
  clear hw3
  have l0 := (cell_of_row w3 _ 0 _ _ _ L3.out).trans rfl
  go_wp2_with fail
  refine (HS1.out _ _ S3.out.below K3.out).mono ?_
  rintro e w4 ⟨rfl, hb⟩
  have S4 := Lib.hid (S3.out.step hb)
  clear hb l0
  obtain ⟨r0, r1, r2, r3, rf⟩ := box4 S4.out.res
  have f0 := rf 0
  have f1 := rf 1
  have f2 := rf 2
  have f3 := rf 3
  clear rf
  go_wp2_with fail
  rw [Exit.noGoto_ret]
  obtain ⟨w9, hw9⟩ : ∃ w9, w9 = ((((((((w4.setCell ⟨w.heap.size, 0, none⟩ (.bool false)).setCell ⟨w.heap.size, 1, none⟩ (.bool false)).setCell ⟨w.heap.size, 2, none⟩ (.bool false)).setCell ⟨w.heap.size, 3, none⟩ (.int .i64 0)).setCell ⟨w.heap.size, 0, none⟩ (.bool false)).setCell ⟨w.heap.size, 1, none⟩ (.bool false)).setCell ⟨w.heap.size, 2, none⟩ (.bool false)).setCell ⟨w.heap.size, 3, none⟩ (.int .i64 0)) := ⟨_, rfl⟩
  have S9 := Lib.hid (show FindSt w w9 false false false 0 by rw [hw9]; exact (S4.out.put false false false 0).put false false false 0)
  rw [← hw9]
  clear hw9 r0 r1 r2 r3
  obtain ⟨r0, r1, r2, r3, _⟩ := box4 S9.out.res
  exact bodyPost_ret (v := .tuple #[ent false false false 0, .int .i64 0, .int .u8 6]) (by simp [results, Tryd.results28, go_sem, r0, r1, r2, r3]) rfl ⟨rfl, S9.out.below⟩


set_option maxHeartbeats 2000000 in
/-- There is no table. -/
theorem find_table (p : Option Addr) (root va : Int) (w : World) (h0 : 0 ≤ va) (h1 : va < 32768) (hL : LaidW w)
    (hs1 : ∀ W kb, Below w.heap.size w W → WkSt W kb p root → Calls Tryd.prog 40 #[.pointer (some ⟨kb, 0, none⟩), .int .i64 (va / 1024)] W fun e w' => e = .returned (.tuple #[ent false false false 0, .int .u8 0]) ∧ WkGo W w' kb p 0) :
    Calls Tryd.prog 28 #[.pointer p, .int .i64 root, .int .u32 va] w fun e w' => e = .returned (.tuple #[ent false false false 0, .int .i64 0, .int .u8 2]) ∧ Below w.heap.size w w' := by
  have HL := Lib.hid hL
  have hmf : ∀ (fn : Fn) (first cap : Array Value) (w : World), (Instr.makeFunc fn first cap).run Tryd.prog w = .ok (.func fn first cap) w := fun _ _ _ _ => rfl
  have hx0 := idx0
  have hx1 := idx1
  have HS1 := Lib.hid hs1
  clear hs1 hL
  go_enter Tryd.func28, Tryd.ntmps28
  go_wp2_with fail
  obtain ⟨w0, hw0⟩ : ∃ w0, w0 = w.alloc (.cells #[.bool false, .bool false, .bool false, .int .i64 0] 39) := ⟨_, rfl⟩
  have S0 := Lib.hid (show FindSt w w0 false false false 0 by rw [hw0]; exact FindSt.start w)
  rw [← hw0]
  clear hw0
  go_step3
  go_wp2_with fail
  refine (cut_yes va w0 h0 h1 (by exact HL.out.below S0.out.below)).mono ?_
  rintro e w1 ⟨rfl, n1, hw1⟩
  have S1 := Lib.hid (S0.out.step (show Below w0.heap.size w0 w1 by rw [hw1]; exact below_drewN (Below.refl _ _) n1))
  clear hw1 n1
  go_wp2_with fail
  obtain ⟨w2, hw2⟩ : ∃ w2, w2 = w1.alloc (.cells #[.pointer p, .int .i64 root] 87) := ⟨_, rfl⟩
  have S2 := Lib.hid (S1.out.step (show Below w1.heap.size w1 w2 by rw [hw2]; exact (Below.refl _ _).alloc (Nat.le_refl _) _))
  have K2 : Hid (WkSt w2 w1.heap.size p root) := Lib.hid (by rw [hw2]; exact heap_alloc_new w1 _)
  have HK : Hid (w.heap.size < w1.heap.size) := Lib.hid (lt_of_block S1.out.res)
  rw [← hw2]
  clear hw2
  go_step3
  go_wp2_with fail
  refine wp_loop_rounds 3 ?_
  rw [rounds_succ]
  go_wp2_with fail
  obtain ⟨w3, hw3⟩ : ∃ w3, w3 = w2.alloc (.cells #[.int .i64 (va / 1024), .int .u8 2] 90) := ⟨_, rfl⟩
  have A3 : Hid (Below w2.heap.size w2 w3) := Lib.hid (by rw [hw3]; exact (Below.refl _ _).alloc (Nat.le_refl _) _)
  have L3 : Hid (w3.heap[w2.heap.size]? = some (.cells #[.int .i64 (va / 1024), .int .u8 2] 90 (0, 0))) := Lib.hid (by rw [hw3]; exact heap_alloc_new w2 _)
  have S3 := Lib.hid (S2.out.step A3.out)
  have K3 := Lib.hid (K2.out.below A3.out)
  have HKL3 : Hid (w1.heap.size ≠ w2.heap.size) := Lib.hid (fun e => by have := lt_of_block K2.out; omega)
  have HRL3 : Hid (w2.heap.size ≠ w.heap.size) := Lib.hid (fun e => by have := lt_of_block S2.out.res; omega)
  rw [← hw3]
  clear hw3
  have l0 := (cell_of_row w3 _ 0 _ _ _ L3.out).trans rfl
  go_wp2_with fail
  refine (HS1.out _ _ S3.out.below K3.out).mono ?_
  rintro e w4 ⟨rfl, hg⟩
  have S4 := Lib.hid (S3.out.go HK.out hg)
  have K4 := Lib.hid hg.st
  have L4 := Lib.hid ((hg.grown.block _ (lt_of_block L3.out) (fun e => HKL3.out (Option.some.inj e).symm)).trans L3.out)
  clear hg l0
  have l1 := (cell_of_row w4 _ 1 _ _ _ L4.out).trans rfl
  have hne := HRL3.out
  obtain ⟨r0, r1, r2, r3, rf⟩ := box4 S4.out.res
  have f0 := rf 0
  have f1 := rf 1
  have f2 := rf 2
  have f3 := rf 3
  clear rf
  go_wp2_with fail
  rw [Exit.noGoto_ret]
  obtain ⟨w9, hw9⟩ : ∃ w9, w9 = ((((((((w4.setCell ⟨w.heap.size, 0, none⟩ (.bool false)).setCell ⟨w.heap.size, 1, none⟩ (.bool false)).setCell ⟨w.heap.size, 2, none⟩ (.bool false)).setCell ⟨w.heap.size, 3, none⟩ (.int .i64 0)).setCell ⟨w.heap.size, 0, none⟩ (.bool false)).setCell ⟨w.heap.size, 1, none⟩ (.bool false)).setCell ⟨w.heap.size, 2, none⟩ (.bool false)).setCell ⟨w.heap.size, 3, none⟩ (.int .i64 0)) := ⟨_, rfl⟩
  have S9 := Lib.hid (show FindSt w w9 false false false 0 by rw [hw9]; exact (S4.out.put false false false 0).put false false false 0)
  rw [← hw9]
  clear hw9 r0 r1 r2 r3
  obtain ⟨r0, r1, r2, r3, _⟩ := box4 S9.out.res
  exact bodyPost_ret (v := .tuple #[ent false false false 0, .int .i64 0, .int .u8 2]) (by simp [results, Tryd.results28, go_sem, r0, r1, r2, r3]) rfl ⟨rfl, S9.out.below⟩


set_option maxHeartbeats 2000000 in
/-- The table's word is none. -/
theorem find_two (p : Option Addr) (root va : Int) (x1 c1 : Bool) (g1 : Int) (w : World) (h0 : 0 ≤ va) (h1 : va < 32768) (hL : LaidW w)
    (hs1 : ∀ W kb, Below w.heap.size w W → WkSt W kb p root → Calls Tryd.prog 40 #[.pointer (some ⟨kb, 0, none⟩), .int .i64 (va / 1024)] W fun e w' => e = .returned (.tuple #[ent true x1 c1 g1, .int .u8 0]) ∧ WkGo W w' kb p g1)
    (hs2 : ∀ W kb, Below w.heap.size w W → WkSt W kb p g1 → Calls Tryd.prog 40 #[.pointer (some ⟨kb, 0, none⟩), .int .i64 (va / 32 % 32)] W fun e w' => e = .returned (.tuple #[ent false false false 0, .int .u8 6]) ∧ Below W.heap.size W w') :
    Calls Tryd.prog 28 #[.pointer p, .int .i64 root, .int .u32 va] w fun e w' => e = .returned (.tuple #[ent false false false 0, .int .i64 0, .int .u8 6]) ∧ Below w.heap.size w w' := by
  have HL := Lib.hid hL
  have hmf : ∀ (fn : Fn) (first cap : Array Value) (w : World), (Instr.makeFunc fn first cap).run Tryd.prog w = .ok (.func fn first cap) w := fun _ _ _ _ => rfl
  have hx0 := idx0
  have hx1 := idx1
  have HS1 := Lib.hid hs1
  have HS2 := Lib.hid hs2
  clear hs1 hs2 hL
  go_enter Tryd.func28, Tryd.ntmps28
  go_wp2_with fail
  obtain ⟨w0, hw0⟩ : ∃ w0, w0 = w.alloc (.cells #[.bool false, .bool false, .bool false, .int .i64 0] 39) := ⟨_, rfl⟩
  have S0 := Lib.hid (show FindSt w w0 false false false 0 by rw [hw0]; exact FindSt.start w)
  rw [← hw0]
  clear hw0
  go_step3
  go_wp2_with fail
  refine (cut_yes va w0 h0 h1 (by exact HL.out.below S0.out.below)).mono ?_
  rintro e w1 ⟨rfl, n1, hw1⟩
  have S1 := Lib.hid (S0.out.step (show Below w0.heap.size w0 w1 by rw [hw1]; exact below_drewN (Below.refl _ _) n1))
  clear hw1 n1
  go_wp2_with fail
  obtain ⟨w2, hw2⟩ : ∃ w2, w2 = w1.alloc (.cells #[.pointer p, .int .i64 root] 87) := ⟨_, rfl⟩
  have S2 := Lib.hid (S1.out.step (show Below w1.heap.size w1 w2 by rw [hw2]; exact (Below.refl _ _).alloc (Nat.le_refl _) _))
  have K2 : Hid (WkSt w2 w1.heap.size p root) := Lib.hid (by rw [hw2]; exact heap_alloc_new w1 _)
  have HK : Hid (w.heap.size < w1.heap.size) := Lib.hid (lt_of_block S1.out.res)
  rw [← hw2]
  clear hw2
  go_step3
  go_wp2_with fail
  refine wp_loop_rounds 3 ?_
  rw [rounds_succ]
  go_wp2_with fail
  obtain ⟨w3, hw3⟩ : ∃ w3, w3 = w2.alloc (.cells #[.int .i64 (va / 1024), .int .u8 2] 90) := ⟨_, rfl⟩
  have A3 : Hid (Below w2.heap.size w2 w3) := Lib.hid (by rw [hw3]; exact (Below.refl _ _).alloc (Nat.le_refl _) _)
  have L3 : Hid (w3.heap[w2.heap.size]? = some (.cells #[.int .i64 (va / 1024), .int .u8 2] 90 (0, 0))) := Lib.hid (by rw [hw3]; exact heap_alloc_new w2 _)
  have S3 := Lib.hid (S2.out.step A3.out)
  have K3 := Lib.hid (K2.out.below A3.out)
  have HKL3 : Hid (w1.heap.size ≠ w2.heap.size) := Lib.hid (fun e => by have := lt_of_block K2.out; omega)
  have HRL3 : Hid (w2.heap.size ≠ w.heap.size) := Lib.hid (fun e => by have := lt_of_block S2.out.res; omega)
  rw [← hw3]
  clear hw3
  have l0 := (cell_of_row w3 _ 0 _ _ _ L3.out).trans rfl
  go_wp2_with fail
  refine (HS1.out _ _ S3.out.below K3.out).mono ?_
  rintro e w4 ⟨rfl, hg⟩
  have S4 := Lib.hid (S3.out.go HK.out hg)
  have K4 := Lib.hid hg.st
  have L4 := Lib.hid ((hg.grown.block _ (lt_of_block L3.out) (fun e => HKL3.out (Option.some.inj e).symm)).trans L3.out)
  clear hg l0
  have l1 := (cell_of_row w4 _ 1 _ _ _ L4.out).trans rfl
  have hne := HRL3.out
  obtain ⟨r0, r1, r2, r3, rf⟩ := box4 S4.out.res
  have f0 := rf 0
  have f1 := rf 1
  have f2 := rf 2
  have f3 := rf 3
  clear rf
  go_wp2_with fail
  clear r0 r1 r2 r3 f0 f1 f2 f3 l1 hne
  obtain ⟨w5, hw5⟩ : ∃ w5, w5 = (((w4.setCell ⟨w.heap.size, 0, none⟩ (.bool true)).setCell ⟨w.heap.size, 1, none⟩ (.bool x1)).setCell ⟨w.heap.size, 2, none⟩ (.bool c1)).setCell ⟨w.heap.size, 3, none⟩ (.int .i64 g1) := ⟨_, rfl⟩
  have S5 := Lib.hid (show FindSt w w5 true x1 c1 g1 by rw [hw5]; exact S4.out.put true x1 c1 g1)
  have K5 := Lib.hid (show WkSt w5 w1.heap.size p g1 by rw [hw5]; exact put4_block (fun e => by have := HK.out; omega) K4.out true x1 c1 g1)
  rw [← hw5]
  clear hw5
  rw [rounds_succ]
  go_wp2_with fail
  obtain ⟨w6, hw6⟩ : ∃ w6, w6 = w5.alloc (.cells #[.int .i64 (va / 32 % 32), .int .u8 3] 90) := ⟨_, rfl⟩
  have A6 : Hid (Below w5.heap.size w5 w6) := Lib.hid (by rw [hw6]; exact (Below.refl _ _).alloc (Nat.le_refl _) _)
  have L6 : Hid (w6.heap[w5.heap.size]? = some (.cells #[.int .i64 (va / 32 % 32), .int .u8 3] 90 (0, 0))) := Lib.hid (by rw [hw6]; exact heap_alloc_new w5 _)
  have S6 := Lib.hid (S5.out.step A6.out)
  have K6 := Lib.hid (K5.out.below A6.out)
  have HKL6 : Hid (w1.heap.size ≠ w5.heap.size) := Lib.hid (fun e => by have := lt_of_block K5.out; omega)
  have HRL6 : Hid (w5.heap.size ≠ w.heap.size) := Lib.hid (fun e => by have := lt_of_block S5.out.res; omega)
  rw [← hw6]
  clear hw6
  have l0 := (cell_of_row w6 _ 0 _ _ _ L6.out).trans rfl
  go_wp2_with fail
  refine (HS2.out _ _ S6.out.below K6.out).mono ?_
  rintro e w7 ⟨rfl, hb⟩
  have S7 := Lib.hid (S6.out.step hb)
  clear hb l0
  obtain ⟨r0, r1, r2, r3, rf⟩ := box4 S7.out.res
  have f0 := rf 0
  have f1 := rf 1
  have f2 := rf 2
  have f3 := rf 3
  clear rf
  go_wp2_with fail
  rw [Exit.noGoto_ret]
  obtain ⟨w9, hw9⟩ : ∃ w9, w9 = ((((((((w7.setCell ⟨w.heap.size, 0, none⟩ (.bool false)).setCell ⟨w.heap.size, 1, none⟩ (.bool false)).setCell ⟨w.heap.size, 2, none⟩ (.bool false)).setCell ⟨w.heap.size, 3, none⟩ (.int .i64 0)).setCell ⟨w.heap.size, 0, none⟩ (.bool false)).setCell ⟨w.heap.size, 1, none⟩ (.bool false)).setCell ⟨w.heap.size, 2, none⟩ (.bool false)).setCell ⟨w.heap.size, 3, none⟩ (.int .i64 0)) := ⟨_, rfl⟩
  have S9 := Lib.hid (show FindSt w w9 false false false 0 by rw [hw9]; exact (S7.out.put false false false 0).put false false false 0)
  rw [← hw9]
  clear hw9 r0 r1 r2 r3
  obtain ⟨r0, r1, r2, r3, _⟩ := box4 S9.out.res
  exact bodyPost_ret (v := .tuple #[ent false false false 0, .int .i64 0, .int .u8 6]) (by simp [results, Tryd.results28, go_sem, r0, r1, r2, r3]) rfl ⟨rfl, S9.out.below⟩


set_option maxHeartbeats 2000000 in
/-- There is no page. -/
theorem find_page (p : Option Addr) (root va : Int) (x1 c1 : Bool) (g1 : Int) (w : World) (h0 : 0 ≤ va) (h1 : va < 32768) (hL : LaidW w)
    (hs1 : ∀ W kb, Below w.heap.size w W → WkSt W kb p root → Calls Tryd.prog 40 #[.pointer (some ⟨kb, 0, none⟩), .int .i64 (va / 1024)] W fun e w' => e = .returned (.tuple #[ent true x1 c1 g1, .int .u8 0]) ∧ WkGo W w' kb p g1)
    (hs2 : ∀ W kb, Below w.heap.size w W → WkSt W kb p g1 → Calls Tryd.prog 40 #[.pointer (some ⟨kb, 0, none⟩), .int .i64 (va / 32 % 32)] W fun e w' => e = .returned (.tuple #[ent false false false 0, .int .u8 0]) ∧ WkGo W w' kb p 0) :
    Calls Tryd.prog 28 #[.pointer p, .int .i64 root, .int .u32 va] w fun e w' => e = .returned (.tuple #[ent false false false 0, .int .i64 0, .int .u8 3]) ∧ Below w.heap.size w w' := by
  have HL := Lib.hid hL
  have hmf : ∀ (fn : Fn) (first cap : Array Value) (w : World), (Instr.makeFunc fn first cap).run Tryd.prog w = .ok (.func fn first cap) w := fun _ _ _ _ => rfl
  have hx0 := idx0
  have hx1 := idx1
  have HS1 := Lib.hid hs1
  have HS2 := Lib.hid hs2
  clear hs1 hs2 hL
  go_enter Tryd.func28, Tryd.ntmps28
  go_wp2_with fail
  obtain ⟨w0, hw0⟩ : ∃ w0, w0 = w.alloc (.cells #[.bool false, .bool false, .bool false, .int .i64 0] 39) := ⟨_, rfl⟩
  have S0 := Lib.hid (show FindSt w w0 false false false 0 by rw [hw0]; exact FindSt.start w)
  rw [← hw0]
  clear hw0
  go_step3
  go_wp2_with fail
  refine (cut_yes va w0 h0 h1 (by exact HL.out.below S0.out.below)).mono ?_
  rintro e w1 ⟨rfl, n1, hw1⟩
  have S1 := Lib.hid (S0.out.step (show Below w0.heap.size w0 w1 by rw [hw1]; exact below_drewN (Below.refl _ _) n1))
  clear hw1 n1
  go_wp2_with fail
  obtain ⟨w2, hw2⟩ : ∃ w2, w2 = w1.alloc (.cells #[.pointer p, .int .i64 root] 87) := ⟨_, rfl⟩
  have S2 := Lib.hid (S1.out.step (show Below w1.heap.size w1 w2 by rw [hw2]; exact (Below.refl _ _).alloc (Nat.le_refl _) _))
  have K2 : Hid (WkSt w2 w1.heap.size p root) := Lib.hid (by rw [hw2]; exact heap_alloc_new w1 _)
  have HK : Hid (w.heap.size < w1.heap.size) := Lib.hid (lt_of_block S1.out.res)
  rw [← hw2]
  clear hw2
  go_step3
  go_wp2_with fail
  refine wp_loop_rounds 3 ?_
  rw [rounds_succ]
  go_wp2_with fail
  obtain ⟨w3, hw3⟩ : ∃ w3, w3 = w2.alloc (.cells #[.int .i64 (va / 1024), .int .u8 2] 90) := ⟨_, rfl⟩
  have A3 : Hid (Below w2.heap.size w2 w3) := Lib.hid (by rw [hw3]; exact (Below.refl _ _).alloc (Nat.le_refl _) _)
  have L3 : Hid (w3.heap[w2.heap.size]? = some (.cells #[.int .i64 (va / 1024), .int .u8 2] 90 (0, 0))) := Lib.hid (by rw [hw3]; exact heap_alloc_new w2 _)
  have S3 := Lib.hid (S2.out.step A3.out)
  have K3 := Lib.hid (K2.out.below A3.out)
  have HKL3 : Hid (w1.heap.size ≠ w2.heap.size) := Lib.hid (fun e => by have := lt_of_block K2.out; omega)
  have HRL3 : Hid (w2.heap.size ≠ w.heap.size) := Lib.hid (fun e => by have := lt_of_block S2.out.res; omega)
  rw [← hw3]
  clear hw3
  have l0 := (cell_of_row w3 _ 0 _ _ _ L3.out).trans rfl
  go_wp2_with fail
  refine (HS1.out _ _ S3.out.below K3.out).mono ?_
  rintro e w4 ⟨rfl, hg⟩
  have S4 := Lib.hid (S3.out.go HK.out hg)
  have K4 := Lib.hid hg.st
  have L4 := Lib.hid ((hg.grown.block _ (lt_of_block L3.out) (fun e => HKL3.out (Option.some.inj e).symm)).trans L3.out)
  clear hg l0
  have l1 := (cell_of_row w4 _ 1 _ _ _ L4.out).trans rfl
  have hne := HRL3.out
  obtain ⟨r0, r1, r2, r3, rf⟩ := box4 S4.out.res
  have f0 := rf 0
  have f1 := rf 1
  have f2 := rf 2
  have f3 := rf 3
  clear rf
  go_wp2_with fail
  clear r0 r1 r2 r3 f0 f1 f2 f3 l1 hne
  obtain ⟨w5, hw5⟩ : ∃ w5, w5 = (((w4.setCell ⟨w.heap.size, 0, none⟩ (.bool true)).setCell ⟨w.heap.size, 1, none⟩ (.bool x1)).setCell ⟨w.heap.size, 2, none⟩ (.bool c1)).setCell ⟨w.heap.size, 3, none⟩ (.int .i64 g1) := ⟨_, rfl⟩
  have S5 := Lib.hid (show FindSt w w5 true x1 c1 g1 by rw [hw5]; exact S4.out.put true x1 c1 g1)
  have K5 := Lib.hid (show WkSt w5 w1.heap.size p g1 by rw [hw5]; exact put4_block (fun e => by have := HK.out; omega) K4.out true x1 c1 g1)
  rw [← hw5]
  clear hw5
  rw [rounds_succ]
  go_wp2_with fail
  obtain ⟨w6, hw6⟩ : ∃ w6, w6 = w5.alloc (.cells #[.int .i64 (va / 32 % 32), .int .u8 3] 90) := ⟨_, rfl⟩
  have A6 : Hid (Below w5.heap.size w5 w6) := Lib.hid (by rw [hw6]; exact (Below.refl _ _).alloc (Nat.le_refl _) _)
  have L6 : Hid (w6.heap[w5.heap.size]? = some (.cells #[.int .i64 (va / 32 % 32), .int .u8 3] 90 (0, 0))) := Lib.hid (by rw [hw6]; exact heap_alloc_new w5 _)
  have S6 := Lib.hid (S5.out.step A6.out)
  have K6 := Lib.hid (K5.out.below A6.out)
  have HKL6 : Hid (w1.heap.size ≠ w5.heap.size) := Lib.hid (fun e => by have := lt_of_block K5.out; omega)
  have HRL6 : Hid (w5.heap.size ≠ w.heap.size) := Lib.hid (fun e => by have := lt_of_block S5.out.res; omega)
  rw [← hw6]
  clear hw6
  have l0 := (cell_of_row w6 _ 0 _ _ _ L6.out).trans rfl
  go_wp2_with fail
  refine (HS2.out _ _ S6.out.below K6.out).mono ?_
  rintro e w7 ⟨rfl, hg⟩
  have S7 := Lib.hid (S6.out.go HK.out hg)
  have K7 := Lib.hid hg.st
  have L7 := Lib.hid ((hg.grown.block _ (lt_of_block L6.out) (fun e => HKL6.out (Option.some.inj e).symm)).trans L6.out)
  clear hg l0
  have l1 := (cell_of_row w7 _ 1 _ _ _ L7.out).trans rfl
  have hne := HRL6.out
  obtain ⟨r0, r1, r2, r3, rf⟩ := box4 S7.out.res
  have f0 := rf 0
  have f1 := rf 1
  have f2 := rf 2
  have f3 := rf 3
  clear rf
  go_wp2_with fail
  rw [Exit.noGoto_ret]
  obtain ⟨w9, hw9⟩ : ∃ w9, w9 = ((((((((w7.setCell ⟨w.heap.size, 0, none⟩ (.bool false)).setCell ⟨w.heap.size, 1, none⟩ (.bool false)).setCell ⟨w.heap.size, 2, none⟩ (.bool false)).setCell ⟨w.heap.size, 3, none⟩ (.int .i64 0)).setCell ⟨w.heap.size, 0, none⟩ (.bool false)).setCell ⟨w.heap.size, 1, none⟩ (.bool false)).setCell ⟨w.heap.size, 2, none⟩ (.bool false)).setCell ⟨w.heap.size, 3, none⟩ (.int .i64 0)) := ⟨_, rfl⟩
  have S9 := Lib.hid (show FindSt w w9 false false false 0 by rw [hw9]; exact (S7.out.put false false false 0).put false false false 0)
  rw [← hw9]
  clear hw9 r0 r1 r2 r3
  obtain ⟨r0, r1, r2, r3, _⟩ := box4 S9.out.res
  exact bodyPost_ret (v := .tuple #[ent false false false 0, .int .i64 0, .int .u8 3]) (by simp [results, Tryd.results28, go_sem, r0, r1, r2, r3]) rfl ⟨rfl, S9.out.below⟩


set_option maxHeartbeats 2000000 in
/-- The page is there. -/
theorem find_there (p : Option Addr) (root va : Int) (x1 c1 : Bool) (g1 : Int) (x2 c2 : Bool) (g2 : Int) (w : World) (h0 : 0 ≤ va) (h1 : va < 32768) (hL : LaidW w)
    (hs1 : ∀ W kb, Below w.heap.size w W → WkSt W kb p root → Calls Tryd.prog 40 #[.pointer (some ⟨kb, 0, none⟩), .int .i64 (va / 1024)] W fun e w' => e = .returned (.tuple #[ent true x1 c1 g1, .int .u8 0]) ∧ WkGo W w' kb p g1)
    (hs2 : ∀ W kb, Below w.heap.size w W → WkSt W kb p g1 → Calls Tryd.prog 40 #[.pointer (some ⟨kb, 0, none⟩), .int .i64 (va / 32 % 32)] W fun e w' => e = .returned (.tuple #[ent true x2 c2 g2, .int .u8 0]) ∧ WkGo W w' kb p g2) :
    Calls Tryd.prog 28 #[.pointer p, .int .i64 root, .int .u32 va] w fun e w' => e = .returned (.tuple #[ent true x2 c2 g2, .int .i64 (va % 32), .int .u8 0]) ∧ Below w.heap.size w w' := by
  have HL := Lib.hid hL
  have hmf : ∀ (fn : Fn) (first cap : Array Value) (w : World), (Instr.makeFunc fn first cap).run Tryd.prog w = .ok (.func fn first cap) w := fun _ _ _ _ => rfl
  have hx0 := idx0
  have hx1 := idx1
  have HS1 := Lib.hid hs1
  have HS2 := Lib.hid hs2
  clear hs1 hs2 hL
  go_enter Tryd.func28, Tryd.ntmps28
  go_wp2_with fail
  obtain ⟨w0, hw0⟩ : ∃ w0, w0 = w.alloc (.cells #[.bool false, .bool false, .bool false, .int .i64 0] 39) := ⟨_, rfl⟩
  have S0 := Lib.hid (show FindSt w w0 false false false 0 by rw [hw0]; exact FindSt.start w)
  rw [← hw0]
  clear hw0
  go_step3
  go_wp2_with fail
  refine (cut_yes va w0 h0 h1 (by exact HL.out.below S0.out.below)).mono ?_
  rintro e w1 ⟨rfl, n1, hw1⟩
  have S1 := Lib.hid (S0.out.step (show Below w0.heap.size w0 w1 by rw [hw1]; exact below_drewN (Below.refl _ _) n1))
  clear hw1 n1
  go_wp2_with fail
  obtain ⟨w2, hw2⟩ : ∃ w2, w2 = w1.alloc (.cells #[.pointer p, .int .i64 root] 87) := ⟨_, rfl⟩
  have S2 := Lib.hid (S1.out.step (show Below w1.heap.size w1 w2 by rw [hw2]; exact (Below.refl _ _).alloc (Nat.le_refl _) _))
  have K2 : Hid (WkSt w2 w1.heap.size p root) := Lib.hid (by rw [hw2]; exact heap_alloc_new w1 _)
  have HK : Hid (w.heap.size < w1.heap.size) := Lib.hid (lt_of_block S1.out.res)
  rw [← hw2]
  clear hw2
  go_step3
  go_wp2_with fail
  refine wp_loop_rounds 3 ?_
  rw [rounds_succ]
  go_wp2_with fail
  obtain ⟨w3, hw3⟩ : ∃ w3, w3 = w2.alloc (.cells #[.int .i64 (va / 1024), .int .u8 2] 90) := ⟨_, rfl⟩
  have A3 : Hid (Below w2.heap.size w2 w3) := Lib.hid (by rw [hw3]; exact (Below.refl _ _).alloc (Nat.le_refl _) _)
  have L3 : Hid (w3.heap[w2.heap.size]? = some (.cells #[.int .i64 (va / 1024), .int .u8 2] 90 (0, 0))) := Lib.hid (by rw [hw3]; exact heap_alloc_new w2 _)
  have S3 := Lib.hid (S2.out.step A3.out)
  have K3 := Lib.hid (K2.out.below A3.out)
  have HKL3 : Hid (w1.heap.size ≠ w2.heap.size) := Lib.hid (fun e => by have := lt_of_block K2.out; omega)
  have HRL3 : Hid (w2.heap.size ≠ w.heap.size) := Lib.hid (fun e => by have := lt_of_block S2.out.res; omega)
  rw [← hw3]
  clear hw3
  have l0 := (cell_of_row w3 _ 0 _ _ _ L3.out).trans rfl
  go_wp2_with fail
  refine (HS1.out _ _ S3.out.below K3.out).mono ?_
  rintro e w4 ⟨rfl, hg⟩
  have S4 := Lib.hid (S3.out.go HK.out hg)
  have K4 := Lib.hid hg.st
  have L4 := Lib.hid ((hg.grown.block _ (lt_of_block L3.out) (fun e => HKL3.out (Option.some.inj e).symm)).trans L3.out)
  clear hg l0
  have l1 := (cell_of_row w4 _ 1 _ _ _ L4.out).trans rfl
  have hne := HRL3.out
  obtain ⟨r0, r1, r2, r3, rf⟩ := box4 S4.out.res
  have f0 := rf 0
  have f1 := rf 1
  have f2 := rf 2
  have f3 := rf 3
  clear rf
  go_wp2_with fail
  clear r0 r1 r2 r3 f0 f1 f2 f3 l1 hne
  obtain ⟨w5, hw5⟩ : ∃ w5, w5 = (((w4.setCell ⟨w.heap.size, 0, none⟩ (.bool true)).setCell ⟨w.heap.size, 1, none⟩ (.bool x1)).setCell ⟨w.heap.size, 2, none⟩ (.bool c1)).setCell ⟨w.heap.size, 3, none⟩ (.int .i64 g1) := ⟨_, rfl⟩
  have S5 := Lib.hid (show FindSt w w5 true x1 c1 g1 by rw [hw5]; exact S4.out.put true x1 c1 g1)
  have K5 := Lib.hid (show WkSt w5 w1.heap.size p g1 by rw [hw5]; exact put4_block (fun e => by have := HK.out; omega) K4.out true x1 c1 g1)
  rw [← hw5]
  clear hw5
  rw [rounds_succ]
  go_wp2_with fail
  obtain ⟨w6, hw6⟩ : ∃ w6, w6 = w5.alloc (.cells #[.int .i64 (va / 32 % 32), .int .u8 3] 90) := ⟨_, rfl⟩
  have A6 : Hid (Below w5.heap.size w5 w6) := Lib.hid (by rw [hw6]; exact (Below.refl _ _).alloc (Nat.le_refl _) _)
  have L6 : Hid (w6.heap[w5.heap.size]? = some (.cells #[.int .i64 (va / 32 % 32), .int .u8 3] 90 (0, 0))) := Lib.hid (by rw [hw6]; exact heap_alloc_new w5 _)
  have S6 := Lib.hid (S5.out.step A6.out)
  have K6 := Lib.hid (K5.out.below A6.out)
  have HKL6 : Hid (w1.heap.size ≠ w5.heap.size) := Lib.hid (fun e => by have := lt_of_block K5.out; omega)
  have HRL6 : Hid (w5.heap.size ≠ w.heap.size) := Lib.hid (fun e => by have := lt_of_block S5.out.res; omega)
  rw [← hw6]
  clear hw6
  have l0 := (cell_of_row w6 _ 0 _ _ _ L6.out).trans rfl
  go_wp2_with fail
  refine (HS2.out _ _ S6.out.below K6.out).mono ?_
  rintro e w7 ⟨rfl, hg⟩
  have S7 := Lib.hid (S6.out.go HK.out hg)
  have K7 := Lib.hid hg.st
  have L7 := Lib.hid ((hg.grown.block _ (lt_of_block L6.out) (fun e => HKL6.out (Option.some.inj e).symm)).trans L6.out)
  clear hg l0
  have l1 := (cell_of_row w7 _ 1 _ _ _ L7.out).trans rfl
  have hne := HRL6.out
  obtain ⟨r0, r1, r2, r3, rf⟩ := box4 S7.out.res
  have f0 := rf 0
  have f1 := rf 1
  have f2 := rf 2
  have f3 := rf 3
  clear rf
  go_wp2_with fail
  rw [rounds_succ]
  go_wp2_with fail
  rw [Exit.noGoto_ret]
  obtain ⟨w9, hw9⟩ : ∃ w9, w9 = ((((((((w7.setCell ⟨w.heap.size, 0, none⟩ (.bool true)).setCell ⟨w.heap.size, 1, none⟩ (.bool x2)).setCell ⟨w.heap.size, 2, none⟩ (.bool c2)).setCell ⟨w.heap.size, 3, none⟩ (.int .i64 g2)).setCell ⟨w.heap.size, 0, none⟩ (.bool true)).setCell ⟨w.heap.size, 1, none⟩ (.bool x2)).setCell ⟨w.heap.size, 2, none⟩ (.bool c2)).setCell ⟨w.heap.size, 3, none⟩ (.int .i64 g2)) := ⟨_, rfl⟩
  have S9 := Lib.hid (show FindSt w w9 true x2 c2 g2 by rw [hw9]; exact (S7.out.put true x2 c2 g2).put true x2 c2 g2)
  rw [← hw9]
  clear hw9 r0 r1 r2 r3
  obtain ⟨r0, r1, r2, r3, _⟩ := box4 S9.out.res
  exact bodyPost_ret (v := .tuple #[ent true x2 c2 g2, .int .i64 (va % 32), .int .u8 0]) (by simp [results, Tryd.results28, go_sem, r0, r1, r2, r3]) rfl ⟨rfl, S9.out.below⟩

end Go.Proofs.YthkfffficobbjaaDoor
