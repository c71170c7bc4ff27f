/- Texts of mine, joined: K3 K4. What each says and under which conditions stands at its head, below. -/
import Derived.Test.YtkcecfghfohjcaaDoorGG
import Derived.WalkMore
/- The contract of find, package walk: the walk from a root to the entry of an address's page. Conditions: the tables of package word read as laid; the memory lies as made, or there is none. -/
namespace Go.Proofs.YtkcecfghfohjcaaDoor
open Go.RowKit
set_option maxRecDepth 100000

theorem idx0 (a b c d : Value) (w : World) : (Instr.index 147 (.agg #[a, b, c, d]) (.int .i64 0)).run Tryd.prog w = .ok (.agg #[a, b]) w := by
  simp [Instr.index, run_underlying Tryd.underlying147, asIntOf, go_sem]
theorem idx1 (a b c d : Value) (w : World) : (Instr.index 147 (.agg #[a, b, c, d]) (.int .i64 1)).run Tryd.prog w = .ok (.agg #[c, d]) w := by
  simp [Instr.index, run_underlying Tryd.underlying147, asIntOf, go_sem]

/-- What lies behind the call's start: the result's cells, and old memory as it was. -/
structure FindSt (w w1 : World) (p x c : Bool) (f : Int) : Prop where
  below : Below w.heap.size w w1
  res : w1.heap[w.heap.size]? = some (.cells #[.bool p, .bool x, .bool c, .int .i64 f] 37 (0, 0))
theorem FindSt.start (w : World) : FindSt w (w.alloc (.cells #[.bool false, .bool false, .bool false, .int .i64 0] 37)) false false false 0 := ⟨(Below.refl _ _).alloc (Nat.le_refl _) _, heap_alloc_new w _⟩
theorem FindSt.step {w w1 w2 : World} {p x c : Bool} {f : Int} (h : FindSt w w1 p x c f) (hb : Below w1.heap.size w1 w2) : FindSt w w2 p x c f := ⟨h.below.trans (hb.mono h.below.size), below_block hb h.res⟩
theorem FindSt.go {w w1 w2 : World} {p x c : Bool} {f : Int} {kb : Nat} {po : Option Addr} {g : Int} (h : FindSt w w1 p x c f) (hk : w.heap.size < kb) (hg : WkGo w1 w2 kb po g) : FindSt w w2 p x c f :=
  ⟨h.below.trans (below_of_grownBy hg.grown h.below.size (Nat.le_of_lt hk)), (hg.grown.block _ (lt_of_block h.res) (fun e => by have := Option.some.inj e; omega)).trans h.res⟩
/-- Four cells of the result are put. -/
def put4 (w w1 : World) (p x c : Bool) (f : Int) : World := (((w1.setCell ⟨w.heap.size, 0, none⟩ (.bool p)).setCell ⟨w.heap.size, 1, none⟩ (.bool x)).setCell ⟨w.heap.size, 2, none⟩ (.bool c)).setCell ⟨w.heap.size, 3, none⟩ (.int .i64 f)
theorem FindSt.put {w w1 : World} {p x c : Bool} {f : Int} (h : FindSt w w1 p x c f) (p' x' c' : Bool) (f' : Int) : FindSt w (put4 w w1 p' x' c' f') p' x' c' f' := by
  refine ⟨below_four h.below _ _ _ _, ?_⟩
  have h0 := heap_setCell_same w1 w.heap.size 0 _ _ (.bool p') h.res
  have h1 := heap_setCell_same _ w.heap.size 1 _ _ (.bool x') h0
  have h2 := heap_setCell_same _ w.heap.size 2 _ _ (.bool c') h1
  exact heap_setCell_same _ w.heap.size 3 _ _ (.int .i64 f') h2
theorem put4_block {w w1 : World} {k : Nat} {o : Obj} (hk : k ≠ w.heap.size) (h : w1.heap[k]? = some o) (p x c : Bool) (f : Int) : (put4 w w1 p x c f).heap[k]? = some o := by
  unfold put4
  rw [Below.heap_setCell _ _ _ _ hk, Below.heap_setCell _ _ _ _ hk, Below.heap_setCell _ _ _ _ hk, Below.heap_setCell _ _ _ _ hk]
  exact h

set_option maxHeartbeats 1000000 in
theorem find_range (p : Option Addr) (root va : Int) (w : World) (h : 32768 ≤ va) :
    Calls Tryd.prog 56 #[.pointer p, .int .i64 root, .int .u32 va] w fun e w' => e = .returned (.tuple #[ent false false false 0, .int .i64 0, .int .u8 1]) ∧ Below w.heap.size w w' := by
  go_enter Tryd.func56, Tryd.ntmps56
  go_wp2_with fail
  obtain ⟨w0, hw0⟩ : ∃ w0, w0 = w.alloc (.cells #[.bool false, .bool false, .bool false, .int .i64 0] 37) := ⟨_, rfl⟩
  have S0 := Lib.hid (show FindSt w w0 false false false 0 by rw [hw0]; exact FindSt.start w)
  rw [← hw0]
  clear hw0
  go_step3
  go_wp2_with fail
  refine (cut_no va _ h).mono ?_
  rintro e w1 ⟨rfl, rfl⟩
  obtain ⟨r0, r1, r2, r3, rf⟩ := box4 S0.out.res
  have f0 := rf 0
  have f1 := rf 1
  have f2 := rf 2
  have f3 := rf 3
  clear rf
  go_wp2
  rw [Exit.noGoto_ret]
  exact bodyPost_ret (v := .tuple #[ent false false false 0, .int .i64 0, .int .u8 1]) (by simp [results, Tryd.results56, go_sem, r0, r1, r2, r3]) rfl ⟨rfl, below_four S0.out.below _ _ _ _⟩


set_option maxHeartbeats 2000000 in
/-- The root's word is none. -/
theorem find_one (p : Option Addr) (root va : Int) (w : World) (h0 : 0 ≤ va) (h1 : va < 32768) (hL : LaidW w)
    (hs1 : ∀ W kb, Below w.heap.size w W → WkSt W kb p root → Calls Tryd.prog 72 #[.pointer (some ⟨kb, 0, none⟩), .int .i64 (va / 1024)] W fun e w' => e = .returned (.tuple #[ent false false false 0, .int .u8 6]) ∧ Below W.heap.size W w') :
    Calls Tryd.prog 56 #[.pointer p, .int .i64 root, .int .u32 va] w fun e w' => e = .returned (.tuple #[ent false false false 0, .int .i64 0, .int .u8 6]) ∧ Below w.heap.size w w' := by
  have HL := Lib.hid hL
  have hmf : ∀ (fn : Fn) (first cap : Array Value) (w : World), (Instr.makeFunc fn first cap).run Tryd.prog w = .ok (.func fn first cap) w := fun _ _ _ _ => rfl
  have hx0 := idx0
  have hx1 := idx1
  have HS1 := Lib.hid hs1
  clear hs1 hL
  go_enter Tryd.func56, Tryd.ntmps56
  go_wp2_with fail
  obtain ⟨w0, hw0⟩ : ∃ w0, w0 = w.alloc (.cells #[.bool false, .bool false, .bool false, .int .i64 0] 37) := ⟨_, rfl⟩
  have S0 := Lib.hid (show FindSt w w0 false false false 0 by rw [hw0]; exact FindSt.start w)
  rw [← hw0]
  clear hw0
  go_step3
  go_wp2_with fail
  refine (cut_yes va w0 h0 h1 (by exact HL.out.below S0.out.below)).mono ?_
  rintro e w1 ⟨rfl, n1, hw1⟩
  have S1 := Lib.hid (S0.out.step (show Below w0.heap.size w0 w1 by rw [hw1]; exact below_drewN (Below.refl _ _) n1))
  clear hw1 n1
  go_wp2_with fail
  obtain ⟨w2, hw2⟩ : ∃ w2, w2 = w1.alloc (.cells #[.pointer p, .int .i64 root] 143) := ⟨_, rfl⟩
  have S2 := Lib.hid (S1.out.step (show Below w1.heap.size w1 w2 by rw [hw2]; exact (Below.refl _ _).alloc (Nat.le_refl _) _))
  have K2 : Hid (WkSt w2 w1.heap.size p root) := Lib.hid (by rw [hw2]; exact heap_alloc_new w1 _)
  have HK : Hid (w.heap.size < w1.heap.size) := Lib.hid (lt_of_block S1.out.res)
  rw [← hw2]
  clear hw2
  go_step3
  go_wp2_with fail
  refine wp_loop_rounds 3 ?_
  rw [rounds_succ]
  go_wp2_with fail
  obtain ⟨w3, hw3⟩ : ∃ w3, w3 = w2.alloc (.cells #[.int .i64 (va / 1024), .int .u8 2] 146) := ⟨_, rfl⟩
  have A3 : Hid (Below w2.heap.size w2 w3) := Lib.hid (by rw [hw3]; exact (Below.refl _ _).alloc (Nat.le_refl _) _)
  have L3 : Hid (w3.heap[w2.heap.size]? = some (.cells #[.int .i64 (va / 1024), .int .u8 2] 146 (0, 0))) := Lib.hid (by rw [hw3]; exact heap_alloc_new w2 _)
  have S3 := Lib.hid (S2.out.step A3.out)
  have K3 := Lib.hid (K2.out.below A3.out)
  have HKL3 : Hid (w1.heap.size ≠ w2.heap.size) := Lib.hid (fun e => by have := lt_of_block K2.out; omega)
  have HRL3 : Hid (w2.heap.size ≠ w.heap.size) := Lib.hid (fun e => by have := lt_of_block S2.out.res; omega)
  rw [← hw3]
  clear hw3
  have l0 := (cell_of_row w3 _ 0 _ _ _ L3.out).trans rfl
  go_wp2_with fail
  refine (HS1.out _ _ S3.out.below K3.out).mono ?_
  rintro e w4 ⟨rfl, hb⟩
  have S4 := Lib.hid (S3.out.step hb)
  clear hb l0
  obtain ⟨r0, r1, r2, r3, rf⟩ := box4 S4.out.res
  have f0 := rf 0
  have f1 := rf 1
  have f2 := rf 2
  have f3 := rf 3
  clear rf
  go_wp2_with fail
  rw [Exit.noGoto_ret]
  obtain ⟨w9, hw9⟩ : ∃ w9, w9 = ((((((((w4.setCell ⟨w.heap.size, 0, none⟩ (.bool false)).setCell ⟨w.heap.size, 1, none⟩ (.bool false)).setCell ⟨w.heap.size, 2, none⟩ (.bool false)).setCell ⟨w.heap.size, 3, none⟩ (.int .i64 0)).setCell ⟨w.heap.size, 0, none⟩ (.bool false)).setCell ⟨w.heap.size, 1, none⟩ (.bool false)).setCell ⟨w.heap.size, 2, none⟩ (.bool false)).setCell ⟨w.heap.size, 3, none⟩ (.int .i64 0)) := ⟨_, rfl⟩
  have S9 := Lib.hid (show FindSt w w9 false false false 0 by rw [hw9]; exact (S4.out.put false false false 0).put false false false 0)
  rw [← hw9]
  clear hw9 r0 r1 r2 r3
  obtain ⟨r0, r1, r2, r3, _⟩ := box4 S9.out.res
  exact bodyPost_ret (v := .tuple #[ent false false false 0, .int .i64 0, .int .u8 6]) (by simp [results, Tryd.results56, go_sem, r0, r1, r2, r3]) rfl ⟨rfl, S9.out.below⟩


set_option maxHeartbeats 2000000 in
/-- There is no table. -/
theorem find_table (p : Option Addr) (root va : Int) (w : World) (h0 : 0 ≤ va) (h1 : va < 32768) (hL : LaidW w)
    (hs1 : ∀ W kb, Below w.heap.size w W → WkSt W kb p root → Calls Tryd.prog 72 #[.pointer (some ⟨kb, 0, none⟩), .int .i64 (va / 1024)] W fun e w' => e = .returned (.tuple #[ent false false false 0, .int .u8 0]) ∧ WkGo W w' kb p 0) :
    Calls Tryd.prog 56 #[.pointer p, .int .i64 root, .int .u32 va] w fun e w' => e = .returned (.tuple #[ent false false false 0, .int .i64 0, .int .u8 2]) ∧ Below w.heap.size w w' := by
  have HL := Lib.hid hL
  have hmf : ∀ (fn : Fn) (first cap : Array Value) (w : World), (Instr.makeFunc fn first cap).run Tryd.prog w = .ok (.func fn first cap) w := fun _ _ _ _ => rfl
  have hx0 := idx0
  have hx1 := idx1
  have HS1 := Lib.hid hs1
  clear hs1 hL
  go_enter Tryd.func56, Tryd.ntmps56
  go_wp2_with fail
  obtain ⟨w0, hw0⟩ : ∃ w0, w0 = w.alloc (.cells #[.bool false, .bool false, .bool false, .int .i64 0] 37) := ⟨_, rfl⟩
  have S0 := Lib.hid (show FindSt w w0 false false false 0 by rw [hw0]; exact FindSt.start w)
  rw [← hw0]
  clear hw0
  go_step3
  go_wp2_with fail
  refine (cut_yes va w0 h0 h1 (by exact HL.out.below S0.out.below)).mono ?_
  rintro e w1 ⟨rfl, n1, hw1⟩
  have S1 := Lib.hid (S0.out.step (show Below w0.heap.size w0 w1 by rw [hw1]; exact below_drewN (Below.refl _ _) n1))
  clear hw1 n1
  go_wp2_with fail
  obtain ⟨w2, hw2⟩ : ∃ w2, w2 = w1.alloc (.cells #[.pointer p, .int .i64 root] 143) := ⟨_, rfl⟩
  have S2 := Lib.hid (S1.out.step (show Below w1.heap.size w1 w2 by rw [hw2]; exact (Below.refl _ _).alloc (Nat.le_refl _) _))
  have K2 : Hid (WkSt w2 w1.heap.size p root) := Lib.hid (by rw [hw2]; exact heap_alloc_new w1 _)
  have HK : Hid (w.heap.size < w1.heap.size) := Lib.hid (lt_of_block S1.out.res)
  rw [← hw2]
  clear hw2
  go_step3
  go_wp2_with fail
  refine wp_loop_rounds 3 ?_
  rw [rounds_succ]
  go_wp2_with fail
  obtain ⟨w3, hw3⟩ : ∃ w3, w3 = w2.alloc (.cells #[.int .i64 (va / 1024), .int .u8 2] 146) := ⟨_, rfl⟩
  have A3 : Hid (Below w2.heap.size w2 w3) := Lib.hid (by rw [hw3]; exact (Below.refl _ _).alloc (Nat.le_refl _) _)
  have L3 : Hid (w3.heap[w2.heap.size]? = some (.cells #[.int .i64 (va / 1024), .int .u8 2] 146 (0, 0))) := Lib.hid (by rw [hw3]; exact heap_alloc_new w2 _)
  have S3 := Lib.hid (S2.out.step A3.out)
  have K3 := Lib.hid (K2.out.below A3.out)
  have HKL3 : Hid (w1.heap.size ≠ w2.heap.size) := Lib.hid (fun e => by have := lt_of_block K2.out; omega)
  have HRL3 : Hid (w2.heap.size ≠ w.heap.size) := Lib.hid (fun e => by have := lt_of_block S2.out.res; omega)
  rw [← hw3]
  clear hw3
  have l0 := (cell_of_row w3 _ 0 _ _ _ L3.out).trans rfl
  go_wp2_with fail
  refine (HS1.out _ _ S3.out.below K3.out).mono ?_
  rintro e w4 ⟨rfl, hg⟩
  have S4 := Lib.hid (S3.out.go HK.out hg)
  have K4 := Lib.hid hg.st
  have L4 := Lib.hid ((hg.grown.block _ (lt_of_block L3.out) (fun e => HKL3.out (Option.some.inj e).symm)).trans L3.out)
  clear hg l0
  have l1 := (cell_of_row w4 _ 1 _ _ _ L4.out).trans rfl
  have hne := HRL3.out
  obtain ⟨r0, r1, r2, r3, rf⟩ := box4 S4.out.res
  have f0 := rf 0
  have f1 := rf 1
  have f2 := rf 2
  have f3 := rf 3
  clear rf
  go_wp2_with fail
  rw [Exit.noGoto_ret]
  obtain ⟨w9, hw9⟩ : ∃ w9, w9 = ((((((((w4.setCell ⟨w.heap.size, 0, none⟩ (.bool false)).setCell ⟨w.heap.size, 1, none⟩ (.bool false)).setCell ⟨w.heap.size, 2, none⟩ (.bool false)).setCell ⟨w.heap.size, 3, none⟩ (.int .i64 0)).setCell ⟨w.heap.size, 0, none⟩ (.bool false)).setCell ⟨w.heap.size, 1, none⟩ (.bool false)).setCell ⟨w.heap.size, 2, none⟩ (.bool false)).setCell ⟨w.heap.size, 3, none⟩ (.int .i64 0)) := ⟨_, rfl⟩
  have S9 := Lib.hid (show FindSt w w9 false false false 0 by rw [hw9]; exact (S4.out.put false false false 0).put false false false 0)
  rw [← hw9]
  clear hw9 r0 r1 r2 r3
  obtain ⟨r0, r1, r2, r3, _⟩ := box4 S9.out.res
  exact bodyPost_ret (v := .tuple #[ent false false false 0, .int .i64 0, .int .u8 2]) (by simp [results, Tryd.results56, go_sem, r0, r1, r2, r3]) rfl ⟨rfl, S9.out.below⟩


set_option maxHeartbeats 2000000 in
/-- The table's word is none. -/
theorem find_two (p : Option Addr) (root va : Int) (x1 c1 : Bool) (g1 : Int) (w : World) (h0 : 0 ≤ va) (h1 : va < 32768) (hL : LaidW w)
    (hs1 : ∀ W kb, Below w.heap.size w W → WkSt W kb p root → Calls Tryd.prog 72 #[.pointer (some ⟨kb, 0, none⟩), .int .i64 (va / 1024)] W fun e w' => e = .returned (.tuple #[ent true x1 c1 g1, .int .u8 0]) ∧ WkGo W w' kb p g1)
    (hs2 : ∀ W kb, Below w.heap.size w W → WkSt W kb p g1 → Calls Tryd.prog 72 #[.pointer (some ⟨kb, 0, none⟩), .int .i64 (va / 32 % 32)] W fun e w' => e = .returned (.tuple #[ent false false false 0, .int .u8 6]) ∧ Below W.heap.size W w') :
    Calls Tryd.prog 56 #[.pointer p, .int .i64 root, .int .u32 va] w fun e w' => e = .returned (.tuple #[ent false false false 0, .int .i64 0, .int .u8 6]) ∧ Below w.heap.size w w' := by
  have HL := Lib.hid hL
  have hmf : ∀ (fn : Fn) (first cap : Array Value) (w : World), (Instr.makeFunc fn first cap).run Tryd.prog w = .ok (.func fn first cap) w := fun _ _ _ _ => rfl
  have hx0 := idx0
  have hx1 := idx1
  have HS1 := Lib.hid hs1
  have HS2 := Lib.hid hs2
  clear hs1 hs2 hL
  go_enter Tryd.func56, Tryd.ntmps56
  go_wp2_with fail
  obtain ⟨w0, hw0⟩ : ∃ w0, w0 = w.alloc (.cells #[.bool false, .bool false, .bool false, .int .i64 0] 37) := ⟨_, rfl⟩
  have S0 := Lib.hid (show FindSt w w0 false false false 0 by rw [hw0]; exact FindSt.start w)
  rw [← hw0]
  clear hw0
  go_step3
  go_wp2_with fail
  refine (cut_yes va w0 h0 h1 (by exact HL.out.below S0.out.below)).mono ?_
  rintro e w1 ⟨rfl, n1, hw1⟩
  have S1 := Lib.hid (S0.out.step (show Below w0.heap.size w0 w1 by rw [hw1]; exact below_drewN (Below.refl _ _) n1))
  clear hw1 n1
  go_wp2_with fail
  obtain ⟨w2, hw2⟩ : ∃ w2, w2 = w1.alloc (.cells #[.pointer p, .int .i64 root] 143) := ⟨_, rfl⟩
  have S2 := Lib.hid (S1.out.step (show Below w1.heap.size w1 w2 by rw [hw2]; exact (Below.refl _ _).alloc (Nat.le_refl _) _))
  have K2 : Hid (WkSt w2 w1.heap.size p root) := Lib.hid (by rw [hw2]; exact heap_alloc_new w1 _)
  have HK : Hid (w.heap.size < w1.heap.size) := Lib.hid (lt_of_block S1.out.res)
  rw [← hw2]
  clear hw2
  go_step3
  go_wp2_with fail
  refine wp_loop_rounds 3 ?_
  rw [rounds_succ]
  go_wp2_with fail
  obtain ⟨w3, hw3⟩ : ∃ w3, w3 = w2.alloc (.cells #[.int .i64 (va / 1024), .int .u8 2] 146) := ⟨_, rfl⟩
  have A3 : Hid (Below w2.heap.size w2 w3) := Lib.hid (by rw [hw3]; exact (Below.refl _ _).alloc (Nat.le_refl _) _)
  have L3 : Hid (w3.heap[w2.heap.size]? = some (.cells #[.int .i64 (va / 1024), .int .u8 2] 146 (0, 0))) := Lib.hid (by rw [hw3]; exact heap_alloc_new w2 _)
  have S3 := Lib.hid (S2.out.step A3.out)
  have K3 := Lib.hid (K2.out.below A3.out)
  have HKL3 : Hid (w1.heap.size ≠ w2.heap.size) := Lib.hid (fun e => by have := lt_of_block K2.out; omega)
  have HRL3 : Hid (w2.heap.size ≠ w.heap.size) := Lib.hid (fun e => by have := lt_of_block S2.out.res; omega)
  rw [← hw3]
  clear hw3
  have l0 := (cell_of_row w3 _ 0 _ _ _ L3.out).trans rfl
  go_wp2_with fail
  refine (HS1.out _ _ S3.out.below K3.out).mono ?_
  rintro e w4 ⟨rfl, hg⟩
  have S4 := Lib.hid (S3.out.go HK.out hg)
  have K4 := Lib.hid hg.st
  have L4 := Lib.hid ((hg.grown.block _ (lt_of_block L3.out) (fun e => HKL3.out (Option.some.inj e).symm)).trans L3.out)
  clear hg l0
  have l1 := (cell_of_row w4 _ 1 _ _ _ L4.out).trans rfl
  have hne := HRL3.out
  obtain ⟨r0, r1, r2, r3, rf⟩ := box4 S4.out.res
  have f0 := rf 0
  have f1 := rf 1
  have f2 := rf 2
  have f3 := rf 3
  clear rf
  go_wp2_with fail
  clear r0 r1 r2 r3 f0 f1 f2 f3 l1 hne
  obtain ⟨w5, hw5⟩ : ∃ w5, w5 = (((w4.setCell ⟨w.heap.size, 0, none⟩ (.bool true)).setCell ⟨w.heap.size, 1, none⟩ (.bool x1)).setCell ⟨w.heap.size, 2, none⟩ (.bool c1)).setCell ⟨w.heap.size, 3, none⟩ (.int .i64 g1) := ⟨_, rfl⟩
  have S5 := Lib.hid (show FindSt w w5 true x1 c1 g1 by rw [hw5]; exact S4.out.put true x1 c1 g1)
  have K5 := Lib.hid (show WkSt w5 w1.heap.size p g1 by rw [hw5]; exact put4_block (fun e => by have := HK.out; omega) K4.out true x1 c1 g1)
  rw [← hw5]
  clear hw5
  rw [rounds_succ]
  go_wp2_with fail
  obtain ⟨w6, hw6⟩ : ∃ w6, w6 = w5.alloc (.cells #[.int .i64 (va / 32 % 32), .int .u8 3] 146) := ⟨_, rfl⟩
  have A6 : Hid (Below w5.heap.size w5 w6) := Lib.hid (by rw [hw6]; exact (Below.refl _ _).alloc (Nat.le_refl _) _)
  have L6 : Hid (w6.heap[w5.heap.size]? = some (.cells #[.int .i64 (va / 32 % 32), .int .u8 3] 146 (0, 0))) := Lib.hid (by rw [hw6]; exact heap_alloc_new w5 _)
  have S6 := Lib.hid (S5.out.step A6.out)
  have K6 := Lib.hid (K5.out.below A6.out)
  have HKL6 : Hid (w1.heap.size ≠ w5.heap.size) := Lib.hid (fun e => by have := lt_of_block K5.out; omega)
  have HRL6 : Hid (w5.heap.size ≠ w.heap.size) := Lib.hid (fun e => by have := lt_of_block S5.out.res; omega)
  rw [← hw6]
  clear hw6
  have l0 := (cell_of_row w6 _ 0 _ _ _ L6.out).trans rfl
  go_wp2_with fail
  refine (HS2.out _ _ S6.out.below K6.out).mono ?_
  rintro e w7 ⟨rfl, hb⟩
  have S7 := Lib.hid (S6.out.step hb)
  clear hb l0
  obtain ⟨r0, r1, r2, r3, rf⟩ := box4 S7.out.res
  have f0 := rf 0
  have f1 := rf 1
  have f2 := rf 2
  have f3 := rf 3
  clear rf
  go_wp2_with fail
  rw [Exit.noGoto_ret]
  obtain ⟨w9, hw9⟩ : ∃ w9, w9 = ((((((((w7.setCell ⟨w.heap.size, 0, none⟩ (.bool false)).setCell ⟨w.heap.size, 1, none⟩ (.bool false)).setCell ⟨w.heap.size, 2, none⟩ (.bool false)).setCell ⟨w.heap.size, 3, none⟩ (.int .i64 0)).setCell ⟨w.heap.size, 0, none⟩ (.bool false)).setCell ⟨w.heap.size, 1, none⟩ (.bool false)).setCell ⟨w.heap.size, 2, none⟩ (.bool false)).setCell ⟨w.heap.size, 3, none⟩ (.int .i64 0)) := ⟨_, rfl⟩
  have S9 := Lib.hid (show FindSt w w9 false false false 0 by rw [hw9]; exact (S7.out.put false false false 0).put false false false 0)
  rw [← hw9]
  clear hw9 r0 r1 r2 r3
  obtain ⟨r0, r1, r2, r3, _⟩ := box4 S9.out.res
  exact bodyPost_ret (v := .tuple #[ent false false false 0, .int .i64 0, .int .u8 6]) (by simp [results, Tryd.results56, go_sem, r0, r1, r2, r3]) rfl ⟨rfl, S9.out.below⟩


set_option maxHeartbeats 2000000 in
/-- There is no page. -/
theorem find_page (p : Option Addr) (root va : Int) (x1 c1 : Bool) (g1 : Int) (w : World) (h0 : 0 ≤ va) (h1 : va < 32768) (hL : LaidW w)
    (hs1 : ∀ W kb, Below w.heap.size w W → WkSt W kb p root → Calls Tryd.prog 72 #[.pointer (some ⟨kb, 0, none⟩), .int .i64 (va / 1024)] W fun e w' => e = .returned (.tuple #[ent true x1 c1 g1, .int .u8 0]) ∧ WkGo W w' kb p g1)
    (hs2 : ∀ W kb, Below w.heap.size w W → WkSt W kb p g1 → Calls Tryd.prog 72 #[.pointer (some ⟨kb, 0, none⟩), .int .i64 (va / 32 % 32)] W fun e w' => e = .returned (.tuple #[ent false false false 0, .int .u8 0]) ∧ WkGo W w' kb p 0) :
    Calls Tryd.prog 56 #[.pointer p, .int .i64 root, .int .u32 va] w fun e w' => e = .returned (.tuple #[ent false false false 0, .int .i64 0, .int .u8 3]) ∧ Below w.heap.size w w' := by
  have HL := Lib.hid hL
  have hmf : ∀ (fn : Fn) (first cap : Array Value) (w : World), (Instr.makeFunc fn first cap).run Tryd.prog w = .ok (.func fn first cap) w := fun _ _ _ _ => rfl
  have hx0 := idx0
  have hx1 := idx1
  have HS1 := Lib.hid hs1
  have HS2 := Lib.hid hs2
  clear hs1 hs2 hL
  go_enter Tryd.func56, Tryd.ntmps56
  go_wp2_with fail
  obtain ⟨w0, hw0⟩ : ∃ w0, w0 = w.alloc (.cells #[.bool false, .bool false, .bool false, .int .i64 0] 37) := ⟨_, rfl⟩
  have S0 := Lib.hid (show FindSt w w0 false false false 0 by rw [hw0]; exact FindSt.start w)
  rw [← hw0]
  clear hw0
  go_step3
  go_wp2_with fail
  refine (cut_yes va w0 h0 h1 (by exact HL.out.below S0.out.below)).mono ?_
  rintro e w1 ⟨rfl, n1, hw1⟩
  have S1 := Lib.hid (S0.out.step (show Below w0.heap.size w0 w1 by rw [hw1]; exact below_drewN (Below.refl _ _) n1))
  clear hw1 n1
  go_wp2_with fail
  obtain ⟨w2, hw2⟩ : ∃ w2, w2 = w1.alloc (.cells #[.pointer p, .int .i64 root] 143) := ⟨_, rfl⟩
  have S2 := Lib.hid (S1.out.step (show Below w1.heap.size w1 w2 by rw [hw2]; exact (Below.refl _ _).alloc (Nat.le_refl _) _))
  have K2 : Hid (WkSt w2 w1.heap.size p root) := Lib.hid (by rw [hw2]; exact heap_alloc_new w1 _)
  have HK : Hid (w.heap.size < w1.heap.size) := Lib.hid (lt_of_block S1.out.res)
  rw [← hw2]
  clear hw2
  go_step3
  go_wp2_with fail
  refine wp_loop_rounds 3 ?_
  rw [rounds_succ]
  go_wp2_with fail
  obtain ⟨w3, hw3⟩ : ∃ w3, w3 = w2.alloc (.cells #[.int .i64 (va / 1024), .int .u8 2] 146) := ⟨_, rfl⟩
  have A3 : Hid (Below w2.heap.size w2 w3) := Lib.hid (by rw [hw3]; exact (Below.refl _ _).alloc (Nat.le_refl _) _)
  have L3 : Hid (w3.heap[w2.heap.size]? = some (.cells #[.int .i64 (va / 1024), .int .u8 2] 146 (0, 0))) := Lib.hid (by rw [hw3]; exact heap_alloc_new w2 _)
  have S3 := Lib.hid (S2.out.step A3.out)
  have K3 := Lib.hid (K2.out.below A3.out)
  have HKL3 : Hid (w1.heap.size ≠ w2.heap.size) := Lib.hid (fun e => by have := lt_of_block K2.out; omega)
  have HRL3 : Hid (w2.heap.size ≠ w.heap.size) := Lib.hid (fun e => by have := lt_of_block S2.out.res; omega)
  rw [← hw3]
  clear hw3
  have l0 := (cell_of_row w3 _ 0 _ _ _ L3.out).trans rfl
  go_wp2_with fail
  refine (HS1.out _ _ S3.out.below K3.out).mono ?_
  rintro e w4 ⟨rfl, hg⟩
  have S4 := Lib.hid (S3.out.go HK.out hg)
  have K4 := Lib.hid hg.st
  have L4 := Lib.hid ((hg.grown.block _ (lt_of_block L3.out) (fun e => HKL3.out (Option.some.inj e).symm)).trans L3.out)
  clear hg l0
  have l1 := (cell_of_row w4 _ 1 _ _ _ L4.out).trans rfl
  have hne := HRL3.out
  obtain ⟨r0, r1, r2, r3, rf⟩ := box4 S4.out.res
  have f0 := rf 0
  have f1 := rf 1
  have f2 := rf 2
  have f3 := rf 3
  clear rf
  go_wp2_with fail
  clear r0 r1 r2 r3 f0 f1 f2 f3 l1 hne
  obtain ⟨w5, hw5⟩ : ∃ w5, w5 = (((w4.setCell ⟨w.heap.size, 0, none⟩ (.bool true)).setCell ⟨w.heap.size, 1, none⟩ (.bool x1)).setCell ⟨w.heap.size, 2, none⟩ (.bool c1)).setCell ⟨w.heap.size, 3, none⟩ (.int .i64 g1) := ⟨_, rfl⟩
  have S5 := Lib.hid (show FindSt w w5 true x1 c1 g1 by rw [hw5]; exact S4.out.put true x1 c1 g1)
  have K5 := Lib.hid (show WkSt w5 w1.heap.size p g1 by rw [hw5]; exact put4_block (fun e => by have := HK.out; omega) K4.out true x1 c1 g1)
  rw [← hw5]
  clear hw5
  rw [rounds_succ]
  go_wp2_with fail
  obtain ⟨w6, hw6⟩ : ∃ w6, w6 = w5.alloc (.cells #[.int .i64 (va / 32 % 32), .int .u8 3] 146) := ⟨_, rfl⟩
  have A6 : Hid (Below w5.heap.size w5 w6) := Lib.hid (by rw [hw6]; exact (Below.refl _ _).alloc (Nat.le_refl _) _)
  have L6 : Hid (w6.heap[w5.heap.size]? = some (.cells #[.int .i64 (va / 32 % 32), .int .u8 3] 146 (0, 0))) := Lib.hid (by rw [hw6]; exact heap_alloc_new w5 _)
  have S6 := Lib.hid (S5.out.step A6.out)
  have K6 := Lib.hid (K5.out.below A6.out)
  have HKL6 : Hid (w1.heap.size ≠ w5.heap.size) := Lib.hid (fun e => by have := lt_of_block K5.out; omega)
  have HRL6 : Hid (w5.heap.size ≠ w.heap.size) := Lib.hid (fun e => by have := lt_of_block S5.out.res; omega)
  rw [← hw6]
  clear hw6
  have l0 := (cell_of_row w6 _ 0 _ _ _ L6.out).trans rfl
  go_wp2_with fail
  refine (HS2.out _ _ S6.out.below K6.out).mono ?_
  rintro e w7 ⟨rfl, hg⟩
  have S7 := Lib.hid (S6.out.go HK.out hg)
  have K7 := Lib.hid hg.st
  have L7 := Lib.hid ((hg.grown.block _ (lt_of_block L6.out) (fun e => HKL6.out (Option.some.inj e).symm)).trans L6.out)
  clear hg l0
  have l1 := (cell_of_row w7 _ 1 _ _ _ L7.out).trans rfl
  have hne := HRL6.out
  obtain ⟨r0, r1, r2, r3, rf⟩ := box4 S7.out.res
  have f0 := rf 0
  have f1 := rf 1
  have f2 := rf 2
  have f3 := rf 3
  clear rf
  go_wp2_with fail
  rw [Exit.noGoto_ret]
  obtain ⟨w9, hw9⟩ : ∃ w9, w9 = ((((((((w7.setCell ⟨w.heap.size, 0, none⟩ (.bool false)).setCell ⟨w.heap.size, 1, none⟩ (.bool false)).setCell ⟨w.heap.size, 2, none⟩ (.bool false)).setCell ⟨w.heap.size, 3, none⟩ (.int .i64 0)).setCell ⟨w.heap.size, 0, none⟩ (.bool false)).setCell ⟨w.heap.size, 1, none⟩ (.bool false)).setCell ⟨w.heap.size, 2, none⟩ (.bool false)).setCell ⟨w.heap.size, 3, none⟩ (.int .i64 0)) := ⟨_, rfl⟩
  have S9 := Lib.hid (show FindSt w w9 false false false 0 by rw [hw9]; exact (S7.out.put false false false 0).put false false false 0)
  rw [← hw9]
  clear hw9 r0 r1 r2 r3
  obtain ⟨r0, r1, r2, r3, _⟩ := box4 S9.out.res
  exact bodyPost_ret (v := .tuple #[ent false false false 0, .int .i64 0, .int .u8 3]) (by simp [results, Tryd.results56, go_sem, r0, r1, r2, r3]) rfl ⟨rfl, S9.out.below⟩


set_option maxHeartbeats 2000000 in
/-- The page is there. -/
theorem find_there (p : Option Addr) (root va : Int) (x1 c1 : Bool) (g1 : Int) (x2 c2 : Bool) (g2 : Int) (w : World) (h0 : 0 ≤ va) (h1 : va < 32768) (hL : LaidW w)
    (hs1 : ∀ W kb, Below w.heap.size w W → WkSt W kb p root → Calls Tryd.prog 72 #[.pointer (some ⟨kb, 0, none⟩), .int .i64 (va / 1024)] W fun e w' => e = .returned (.tuple #[ent true x1 c1 g1, .int .u8 0]) ∧ WkGo W w' kb p g1)
    (hs2 : ∀ W kb, Below w.heap.size w W → WkSt W kb p g1 → Calls Tryd.prog 72 #[.pointer (some ⟨kb, 0, none⟩), .int .i64 (va / 32 % 32)] W fun e w' => e = .returned (.tuple #[ent true x2 c2 g2, .int .u8 0]) ∧ WkGo W w' kb p g2) :
    Calls Tryd.prog 56 #[.pointer p, .int .i64 root, .int .u32 va] w fun e w' => e = .returned (.tuple #[ent true x2 c2 g2, .int .i64 (va % 32), .int .u8 0]) ∧ Below w.heap.size w w' := by
  have HL := Lib.hid hL
  have hmf : ∀ (fn : Fn) (first cap : Array Value) (w : World), (Instr.makeFunc fn first cap).run Tryd.prog w = .ok (.func fn first cap) w := fun _ _ _ _ => rfl
  have hx0 := idx0
  have hx1 := idx1
  have HS1 := Lib.hid hs1
  have HS2 := Lib.hid hs2
  clear hs1 hs2 hL
  go_enter Tryd.func56, Tryd.ntmps56
  go_wp2_with fail
  obtain ⟨w0, hw0⟩ : ∃ w0, w0 = w.alloc (.cells #[.bool false, .bool false, .bool false, .int .i64 0] 37) := ⟨_, rfl⟩
  have S0 := Lib.hid (show FindSt w w0 false false false 0 by rw [hw0]; exact FindSt.start w)
  rw [← hw0]
  clear hw0
  go_step3
  go_wp2_with fail
  refine (cut_yes va w0 h0 h1 (by exact HL.out.below S0.out.below)).mono ?_
  rintro e w1 ⟨rfl, n1, hw1⟩
  have S1 := Lib.hid (S0.out.step (show Below w0.heap.size w0 w1 by rw [hw1]; exact below_drewN (Below.refl _ _) n1))
  clear hw1 n1
  go_wp2_with fail
  obtain ⟨w2, hw2⟩ : ∃ w2, w2 = w1.alloc (.cells #[.pointer p, .int .i64 root] 143) := ⟨_, rfl⟩
  have S2 := Lib.hid (S1.out.step (show Below w1.heap.size w1 w2 by rw [hw2]; exact (Below.refl _ _).alloc (Nat.le_refl _) _))
  have K2 : Hid (WkSt w2 w1.heap.size p root) := Lib.hid (by rw [hw2]; exact heap_alloc_new w1 _)
  have HK : Hid (w.heap.size < w1.heap.size) := Lib.hid (lt_of_block S1.out.res)
  rw [← hw2]
  clear hw2
  go_step3
  go_wp2_with fail
  refine wp_loop_rounds 3 ?_
  rw [rounds_succ]
  go_wp2_with fail
  obtain ⟨w3, hw3⟩ : ∃ w3, w3 = w2.alloc (.cells #[.int .i64 (va / 1024), .int .u8 2] 146) := ⟨_, rfl⟩
  have A3 : Hid (Below w2.heap.size w2 w3) := Lib.hid (by rw [hw3]; exact (Below.refl _ _).alloc (Nat.le_refl _) _)
  have L3 : Hid (w3.heap[w2.heap.size]? = some (.cells #[.int .i64 (va / 1024), .int .u8 2] 146 (0, 0))) := Lib.hid (by rw [hw3]; exact heap_alloc_new w2 _)
  have S3 := Lib.hid (S2.out.step A3.out)
  have K3 := Lib.hid (K2.out.below A3.out)
  have HKL3 : Hid (w1.heap.size ≠ w2.heap.size) := Lib.hid (fun e => by have := lt_of_block K2.out; omega)
  have HRL3 : Hid (w2.heap.size ≠ w.heap.size) := Lib.hid (fun e => by have := lt_of_block S2.out.res; omega)
  rw [← hw3]
  clear hw3
  have l0 := (cell_of_row w3 _ 0 _ _ _ L3.out).trans rfl
  go_wp2_with fail
  refine (HS1.out _ _ S3.out.below K3.out).mono ?_
  rintro e w4 ⟨rfl, hg⟩
  have S4 := Lib.hid (S3.out.go HK.out hg)
  have K4 := Lib.hid hg.st
  have L4 := Lib.hid ((hg.grown.block _ (lt_of_block L3.out) (fun e => HKL3.out (Option.some.inj e).symm)).trans L3.out)
  clear hg l0
  have l1 := (cell_of_row w4 _ 1 _ _ _ L4.out).trans rfl
  have hne := HRL3.out
  obtain ⟨r0, r1, r2, r3, rf⟩ := box4 S4.out.res
  have f0 := rf 0
  have f1 := rf 1
  have f2 := rf 2
  have f3 := rf 3
  clear rf
  go_wp2_with fail
  clear r0 r1 r2 r3 f0 f1 f2 f3 l1 hne
  obtain ⟨w5, hw5⟩ : ∃ w5, w5 = (((w4.setCell ⟨w.heap.size, 0, none⟩ (.bool true)).setCell ⟨w.heap.size, 1, none⟩ (.bool x1)).setCell ⟨w.heap.size, 2, none⟩ (.bool c1)).setCell ⟨w.heap.size, 3, none⟩ (.int .i64 g1) := ⟨_, rfl⟩
  have S5 := Lib.hid (show FindSt w w5 true x1 c1 g1 by rw [hw5]; exact S4.out.put true x1 c1 g1)
  have K5 := Lib.hid (show WkSt w5 w1.heap.size p g1 by rw [hw5]; exact put4_block (fun e => by have := HK.out; omega) K4.out true x1 c1 g1)
  rw [← hw5]
  clear hw5
  rw [rounds_succ]
  go_wp2_with fail
  obtain ⟨w6, hw6⟩ : ∃ w6, w6 = w5.alloc (.cells #[.int .i64 (va / 32 % 32), .int .u8 3] 146) := ⟨_, rfl⟩
  have A6 : Hid (Below w5.heap.size w5 w6) := Lib.hid (by rw [hw6]; exact (Below.refl _ _).alloc (Nat.le_refl _) _)
  have L6 : Hid (w6.heap[w5.heap.size]? = some (.cells #[.int .i64 (va / 32 % 32), .int .u8 3] 146 (0, 0))) := Lib.hid (by rw [hw6]; exact heap_alloc_new w5 _)
  have S6 := Lib.hid (S5.out.step A6.out)
  have K6 := Lib.hid (K5.out.below A6.out)
  have HKL6 : Hid (w1.heap.size ≠ w5.heap.size) := Lib.hid (fun e => by have := lt_of_block K5.out; omega)
  have HRL6 : Hid (w5.heap.size ≠ w.heap.size) := Lib.hid (fun e => by have := lt_of_block S5.out.res; omega)
  rw [← hw6]
  clear hw6
  have l0 := (cell_of_row w6 _ 0 _ _ _ L6.out).trans rfl
  go_wp2_with fail
  refine (HS2.out _ _ S6.out.below K6.out).mono ?_
  rintro e w7 ⟨rfl, hg⟩
  have S7 := Lib.hid (S6.out.go HK.out hg)
  have K7 := Lib.hid hg.st
  have L7 := Lib.hid ((hg.grown.block _ (lt_of_block L6.out) (fun e => HKL6.out (Option.some.inj e).symm)).trans L6.out)
  clear hg l0
  have l1 := (cell_of_row w7 _ 1 _ _ _ L7.out).trans rfl
  have hne := HRL6.out
  obtain ⟨r0, r1, r2, r3, rf⟩ := box4 S7.out.res
  have f0 := rf 0
  have f1 := rf 1
  have f2 := rf 2
  have f3 := rf 3
  clear rf
  go_wp2_with fail
  rw [rounds_succ]
  go_wp2_with fail
  rw [Exit.noGoto_ret]
  obtain ⟨w9, hw9⟩ : ∃ w9, w9 = ((((((((w7.setCell ⟨w.heap.size, 0, none⟩ (.bool true)).setCell ⟨w.heap.size, 1, none⟩ (.bool x2)).setCell ⟨w.heap.size, 2, none⟩ (.bool c2)).setCell ⟨w.heap.size, 3, none⟩ (.int .i64 g2)).setCell ⟨w.heap.size, 0, none⟩ (.bool true)).setCell ⟨w.heap.size, 1, none⟩ (.bool x2)).setCell ⟨w.heap.size, 2, none⟩ (.bool c2)).setCell ⟨w.heap.size, 3, none⟩ (.int .i64 g2)) := ⟨_, rfl⟩
  have S9 := Lib.hid (show FindSt w w9 true x2 c2 g2 by rw [hw9]; exact (S7.out.put true x2 c2 g2).put true x2 c2 g2)
  rw [← hw9]
  clear hw9 r0 r1 r2 r3
  obtain ⟨r0, r1, r2, r3, _⟩ := box4 S9.out.res
  exact bodyPost_ret (v := .tuple #[ent true x2 c2 g2, .int .i64 (va % 32), .int .u8 0]) (by simp [results, Tryd.results56, go_sem, r0, r1, r2, r3]) rfl ⟨rfl, S9.out.below⟩

end Go.Proofs.YtkcecfghfohjcaaDoor

/- The contracts of package walk's At, Look, Load, Store. Conditions: the tables of package word read as laid; the memory lies as made, or there is none. -/
namespace Go.Proofs.YtkcecfghfohjcaaDoor
open Go.RowKit
set_option maxRecDepth 100000

/-- What find tells: the entry, the place, the fault. -/
def findR (n : Nat) (L : List Int) (root va : Int) : Ent × Int × Int :=
  if 32768 ≤ va then (z0, 0, 1) else
  ((pageE n L root (va / 32)).1, (if (pageE n L root (va / 32)).2 = 0 then va % 32 else 0), (pageE n L root (va / 32)).2)

theorem div_two (va : Int) : va / 32 / 32 = va / 1024 := by omega

set_option maxHeartbeats 1000000 in
theorem find_mem (mp fb n : Nat) (L : List Int) (root va : Int) (w : World) (hL : LaidW w) (hW : Words L) (hm : MemSt w mp fb n L) (h0 : 0 ≤ va) :
    Calls Tryd.prog 56 #[.pointer (some ⟨mp, 0, none⟩), .int .i64 root, .int .u32 va] w fun e w' =>
      e = .returned (.tuple #[entV (findR n L root va).1, .int .i64 (findR n L root va).2.1, .int .u8 (findR n L root va).2.2]) ∧ Below w.heap.size w w' := by
  by_cases h1 : 32768 ≤ va
  · have e : findR n L root va = (z0, 0, 1) := if_pos h1
    rw [e]
    exact find_range _ root va w h1
  have h1' : va < 32768 := by omega
  have hno : ∀ (f q : Int), entAt n L f q = none → ∀ W kb, Below w.heap.size w W → WkSt W kb (some ⟨mp, 0, none⟩) f → Calls Tryd.prog 72 #[.pointer (some ⟨kb, 0, none⟩), .int .i64 q] W fun e w' => e = .returned (.tuple #[ent false false false 0, .int .u8 6]) ∧ Below W.heap.size W w' :=
    fun f q he W kb hb hk => step_none kb mp fb n L f q W (hL.below hb) hW (hm.below hb) hk he
  have some' : ∀ (f q : Int) (p x c : Bool) (g : Int), entAt n L f q = some (p, x, c, g) → ∀ W kb, Below w.heap.size w W → WkSt W kb (some ⟨mp, 0, none⟩) f → Calls Tryd.prog 72 #[.pointer (some ⟨kb, 0, none⟩), .int .i64 q] W fun e w' => e = .returned (.tuple #[ent p x c g, .int .u8 0]) ∧ WkGo W w' kb (some ⟨mp, 0, none⟩) g :=
    fun f q p x c g he W kb hb hk => step_some kb mp fb n L f q p x c g W (hL.below hb) hW (hm.below hb) hk he
  have oute : ∀ x f, pageE n L root (va / 32) = (x, f) → f ≠ 0 → findR n L root va = (x, 0, f) := fun x f h hf => by
    unfold findR
    rw [if_neg h1, h]
    exact congrArg (fun q => (x, q, f)) (if_neg hf)
  have out0 : ∀ x, pageE n L root (va / 32) = (x, 0) → findR n L root va = (x, va % 32, 0) := fun x h => by
    unfold findR
    rw [if_neg h1, h]
    exact congrArg (fun q => (x, q, (0 : Int))) (if_pos rfl)
  have zero : ∀ {f q : Int} {t : Ent}, entAt n L f q = some t → t.1 = false → t = z0 := fun he ht => (decode_low (entAt_some he).2.1).2.2 ht
  rcases pageE_cases n L root (va / 32) with ⟨a1, r⟩ | ⟨t, a1, a2, r⟩ | ⟨⟨p, x, c, g⟩, a1, a2, a3, r⟩ | ⟨⟨p, x, c, g⟩, t, a1, a2, a3, a4, r⟩ | ⟨⟨p, x, c, g⟩, ⟨p2, x2, c2, g2⟩, a1, a2, a3, a4, r⟩
  all_goals
    rw [div_two] at a1
    first | rw [oute _ _ r (by decide)] | rw [out0 _ r]
  · exact find_one _ root va w h0 h1' hL (hno _ _ a1)
  · obtain rfl := zero a1 a2
    exact find_table _ root va w h0 h1' hL (some' _ _ _ _ _ _ a1)
  · obtain rfl : p = true := a2
    exact find_two _ root va x c g w h0 h1' hL (some' _ _ _ _ _ _ a1) (hno _ _ a3)
  · obtain rfl : p = true := a2
    obtain rfl := zero a3 a4
    exact find_page _ root va x c g w h0 h1' hL (some' _ _ _ _ _ _ a1) (some' _ _ _ _ _ _ a3)
  · obtain rfl : p = true := a2
    obtain rfl : p2 = true := a4
    exact find_there _ root va x c g x2 c2 g2 w h0 h1' hL (some' _ _ _ _ _ _ a1) (some' _ _ _ _ _ _ a3)
set_option maxHeartbeats 1000000 in
theorem find_nil (po : Option Addr) (root va : Int) (w : World) (hL : LaidW w) (hp : NoMem w po) (h0 : 0 ≤ va) :
    Calls Tryd.prog 56 #[.pointer po, .int .i64 root, .int .u32 va] w fun e w' =>
      e = .returned (.tuple #[ent false false false 0, .int .i64 0, .int .u8 (if 32768 ≤ va then 1 else 6)]) ∧ Below w.heap.size w w' := by
  by_cases h1 : 32768 ≤ va
  · rw [if_pos h1]; exact find_range _ root va w h1
  · rw [if_neg h1]
    exact find_one _ root va w h0 (by omega) hL (fun W kb hb hk => step_nil kb po root _ W (hp.below hb) hk)

theorem denied_cow (p x : Bool) (g : Int) (w : World) : Calls Tryd.prog 57 #[ent p x true g] w fun e w' => e = .returned (.int .u8 5) ∧ Below w.heap.size w w' := by
  go_enter Tryd.func57, Tryd.ntmps57
  go_wp2
  go_ret
  exact ⟨rfl, (Below.refl _ _).alloc (Nat.le_refl _) _⟩
theorem denied_write (p : Bool) (g : Int) (w : World) : Calls Tryd.prog 57 #[ent p false false g] w fun e w' => e = .returned (.int .u8 4) ∧ Below w.heap.size w w' := by
  go_enter Tryd.func57, Tryd.ntmps57
  go_wp2
  go_ret
  exact ⟨rfl, (Below.refl _ _).alloc (Nat.le_refl _) _⟩
theorem denied_none (p : Bool) (g : Int) (w : World) : Calls Tryd.prog 57 #[ent p true false g] w fun e w' => e = .returned (.int .u8 0) ∧ Below w.heap.size w w' := by
  go_enter Tryd.func57, Tryd.ntmps57
  go_wp2
  go_ret
  exact ⟨rfl, (Below.refl _ _).alloc (Nat.le_refl _) _⟩

/-- Where an address is: find's answer, by the kind of access. -/
def AtArgs (p : Option Addr) (root va : Int) (wr : Bool) : Array Value := #[.pointer p, .int .i64 root, .int .u32 va, .bool wr]
set_option maxHeartbeats 1000000 in
theorem at_fault (po : Option Addr) (root va : Int) (wr : Bool) (p x c : Bool) (g pl f : Int) (w : World) (hf : (f == 0) = false) (hf2 : (f != 0) = true)
    (hs : Calls Tryd.prog 56 #[.pointer po, .int .i64 root, .int .u32 va] w fun e w' => e = .returned (.tuple #[ent p x c g, .int .i64 pl, .int .u8 f]) ∧ Below w.heap.size w w') :
    Calls Tryd.prog 27 #[.pointer po, .int .i64 root, .int .u32 va, .bool wr] w fun e w' => e = .returned (.tuple #[.int .i64 0, .int .i64 0, .int .u8 f]) ∧ Below w.heap.size w w' := by
  have HS := Lib.hid hs
  clear hs
  go_enter Tryd.func27, Tryd.ntmps27
  go_wp2_with fail
  refine HS.out.mono ?_
  rintro e w1 ⟨rfl, hb⟩
  have B1 := Lib.hid hb
  clear hb
  go_wp2
  exact bodyPost_ret (v := .tuple #[.int .i64 0, .int .i64 0, .int .u8 f]) (by simp [results, Tryd.results27, go_sem]) rfl ⟨rfl, B1.out.alloc B1.out.size _⟩
set_option maxHeartbeats 1000000 in
theorem at_read (po : Option Addr) (root va : Int) (p x c : Bool) (g pl : Int) (w : World)
    (hs : Calls Tryd.prog 56 #[.pointer po, .int .i64 root, .int .u32 va] w fun e w' => e = .returned (.tuple #[ent p x c g, .int .i64 pl, .int .u8 0]) ∧ Below w.heap.size w w') :
    Calls Tryd.prog 27 #[.pointer po, .int .i64 root, .int .u32 va, .bool false] w fun e w' => e = .returned (.tuple #[.int .i64 g, .int .i64 pl, .int .u8 0]) ∧ Below w.heap.size w w' := by
  have HS := Lib.hid hs
  clear hs
  go_enter Tryd.func27, Tryd.ntmps27
  go_wp2_with fail
  refine HS.out.mono ?_
  rintro e w1 ⟨rfl, hb⟩
  have B1 := Lib.hid hb
  clear hb
  go_wp2
  exact bodyPost_ret (v := .tuple #[.int .i64 g, .int .i64 pl, .int .u8 0]) (by simp [results, Tryd.results27, go_sem]) rfl ⟨rfl, B1.out.alloc B1.out.size _⟩
set_option maxHeartbeats 1000000 in
theorem at_denied (po : Option Addr) (root va : Int) (p x c : Bool) (g pl f : Int) (w : World) (hf2 : (f != 0) = true)
    (hs : Calls Tryd.prog 56 #[.pointer po, .int .i64 root, .int .u32 va] w fun e w' => e = .returned (.tuple #[ent p x c g, .int .i64 pl, .int .u8 0]) ∧ Below w.heap.size w w')
    (hd : ∀ W, Calls Tryd.prog 57 #[ent p x c g] W fun e w' => e = .returned (.int .u8 f) ∧ Below W.heap.size W w') :
    Calls Tryd.prog 27 #[.pointer po, .int .i64 root, .int .u32 va, .bool true] w fun e w' => e = .returned (.tuple #[.int .i64 0, .int .i64 0, .int .u8 f]) ∧ Below w.heap.size w w' := by
  have HS := Lib.hid hs
  have HD := Lib.hid hd
  clear hs hd
  go_enter Tryd.func27, Tryd.ntmps27
  go_wp2_with fail
  refine HS.out.mono ?_
  rintro e w1 ⟨rfl, hb⟩
  have B1 := Lib.hid hb
  clear hb
  go_wp2_with fail
  refine (HD.out _).mono ?_
  rintro e w2 ⟨rfl, hb⟩
  have B2 := Lib.hid ((B1.out.alloc B1.out.size (.cells #[.bool p, .bool x, .bool c, .int .i64 g] 37)).trans (hb.mono (by have := B1.out.size; simp; omega)))
  clear hb
  go_wp2
  exact bodyPost_ret (v := .tuple #[.int .i64 0, .int .i64 0, .int .u8 f]) (by simp [results, Tryd.results27, go_sem]) rfl ⟨rfl, B2.out⟩
set_option maxHeartbeats 1000000 in
theorem at_write (po : Option Addr) (root va : Int) (p x c : Bool) (g pl : Int) (w : World)
    (hs : Calls Tryd.prog 56 #[.pointer po, .int .i64 root, .int .u32 va] w fun e w' => e = .returned (.tuple #[ent p x c g, .int .i64 pl, .int .u8 0]) ∧ Below w.heap.size w w')
    (hd : ∀ W, Calls Tryd.prog 57 #[ent p x c g] W fun e w' => e = .returned (.int .u8 0) ∧ Below W.heap.size W w') :
    Calls Tryd.prog 27 #[.pointer po, .int .i64 root, .int .u32 va, .bool true] w fun e w' => e = .returned (.tuple #[.int .i64 g, .int .i64 pl, .int .u8 0]) ∧ Below w.heap.size w w' := by
  have HS := Lib.hid hs
  have HD := Lib.hid hd
  clear hs hd
  go_enter Tryd.func27, Tryd.ntmps27
  go_wp2_with fail
  refine HS.out.mono ?_
  rintro e w1 ⟨rfl, hb⟩
  have B1 := Lib.hid hb
  clear hb
  go_wp2_with fail
  refine (HD.out _).mono ?_
  rintro e w2 ⟨rfl, hb⟩
  have B2 := Lib.hid ((B1.out.alloc B1.out.size (.cells #[.bool p, .bool x, .bool c, .int .i64 g] 37)).trans (hb.mono (by have := B1.out.size; simp; omega)))
  have k3 := (cell_of_row w2 _ 3 _ _ _ (below_block hb (heap_alloc_new w1 (.cells #[.bool p, .bool x, .bool c, .int .i64 g] 37)))).trans rfl
  clear hb
  go_wp2
  exact bodyPost_ret (v := .tuple #[.int .i64 g, .int .i64 pl, .int .u8 0]) (by simp [results, Tryd.results27, go_sem]) rfl ⟨rfl, B2.out⟩

theorem pageE_fault (n : Nat) (L : List Int) (root pg : Int) : (pageE n L root pg).2 = 0 ∨ (pageE n L root pg).2 = 2 ∨ (pageE n L root pg).2 = 3 ∨ (pageE n L root pg).2 = 6 := by
  rcases pageE_cases n L root pg with ⟨_, r⟩ | ⟨_, _, _, r⟩ | ⟨_, _, _, _, r⟩ | ⟨_, _, _, _, _, _, r⟩ | ⟨_, _, _, _, _, _, r⟩ <;> rw [r] <;> simp

set_option maxHeartbeats 1000000 in
theorem at_mem (mp fb n : Nat) (L : List Int) (root va : Int) (wr : Bool) (w : World) (hL : LaidW w) (hW : Words L) (hm : MemSt w mp fb n L) (h0 : 0 ≤ va) :
    Calls Tryd.prog 27 #[.pointer (some ⟨mp, 0, none⟩), .int .i64 root, .int .u32 va, .bool wr] w fun e w' =>
      e = .returned (.tuple #[.int .i64 (atE n L root va wr).1, .int .i64 (atE n L root va wr).2.1, .int .u8 (atE n L root va wr).2.2]) ∧ Below w.heap.size w w' := by
  have hs := find_mem mp fb n L root va w hL hW hm h0
  unfold atE
  by_cases h1 : 32768 ≤ va
  · rw [if_pos h1]
    rw [show findR n L root va = (z0, 0, 1) from if_pos h1] at hs
    exact at_fault _ root va wr _ _ _ _ _ 1 w rfl rfl hs
  rw [if_neg h1]
  have hr : findR n L root va = ((pageE n L root (va / 32)).1, (if (pageE n L root (va / 32)).2 = 0 then va % 32 else 0), (pageE n L root (va / 32)).2) := if_neg h1
  rw [hr] at hs
  clear hr
  have hc := pageE_fault n L root (va / 32)
  generalize pageE n L root (va / 32) = r at hs hc ⊢
  obtain ⟨⟨p, x, c, g⟩, f⟩ := r
  by_cases hf : f ≠ 0
  · rw [if_pos hf]
    rw [if_neg hf] at hs
    exact at_fault _ root va wr p x c g 0 f w (by simpa using hf) (by simpa using hf) hs
  · rw [if_neg hf]
    obtain rfl : f = 0 := by simpa using hf
    rw [if_pos rfl] at hs
    cases wr
    · exact at_read _ root va p x c g (va % 32) w hs
    · cases c
      · cases x
        · exact at_denied _ root va p false false g (va % 32) 4 w rfl hs (denied_write p g)
        · exact at_write _ root va p true false g (va % 32) w hs (denied_none p g)
      · exact at_denied _ root va p x true g (va % 32) 5 w rfl hs (denied_cow p x g)
theorem at_nil (po : Option Addr) (root va : Int) (wr : Bool) (w : World) (hL : LaidW w) (hp : NoMem w po) (h0 : 0 ≤ va) :
    Calls Tryd.prog 27 #[.pointer po, .int .i64 root, .int .u32 va, .bool wr] w fun e w' =>
      e = .returned (.tuple #[.int .i64 0, .int .i64 0, .int .u8 (if 32768 ≤ va then 1 else 6)]) ∧ Below w.heap.size w w' := by
  have hs := find_nil po root va w hL hp h0
  by_cases h1 : 32768 ≤ va
  · rw [if_pos h1] at hs ⊢
    exact at_fault _ root va wr _ _ _ _ _ 1 w rfl rfl hs
  · rw [if_neg h1] at hs ⊢
    exact at_fault _ root va wr _ _ _ _ _ 6 w rfl rfl hs
end Go.Proofs.YtkcecfghfohjcaaDoor
