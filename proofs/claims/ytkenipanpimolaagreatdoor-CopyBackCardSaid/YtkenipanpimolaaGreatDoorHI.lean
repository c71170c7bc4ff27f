/- Texts of mine, joined: A18 A11 A12 A19 A20 A21 A22. What each says and under which conditions stands at its head, below. -/
import Derived.Test.YtkenipanpimolaaGreatDoorGL
/- The contracts of the document's own Write, Zero, Page of layer 2, on a memory that lies inside a pool of layer 9's. Conditions: its words lie in a block. -/
namespace Go.Proofs.YtkenipanpimolaaGreatDoor
open Go.RowKit
set_option maxRecDepth 100000

end Go.Proofs.YtkenipanpimolaaGreatDoor

/- The walks of PallocNone and PallocRefs. Condition: the library's table reads as its initialiser lays it. -/
namespace Go.Proofs.YtkenipanpimolaaGreatDoor
open Go.RowKit
set_option maxRecDepth 100000

structure NoneSt9 (W wr : World) : Prop where
  box : wr.heap[W.heap.size]? = some (.cells #[.pointer none, .slice none 0 0, .map none] 83 (0, 0))
  below : Below W.heap.size W wr
def NoneRel9 (W : World) (s i : Value) (wr : World) : Prop := (s = .pointer none ∧ (i = .int .i64 0 ∨ i = .int .i64 1) ∨ (s = .pointer (some ⟨W.heap.size, 0, none⟩) ∧ i = .int .i64 2)) ∧ NoneSt9 W wr
/-! ### PallocRefs -/
def P1 : List (Nat × Nat) := [(0, 1)]
abbrev Rh (h : Nat) : Nat → Nat := upd R0 0 h
def RefsRel1 (W : World) (X : PIx) (L : List Int) (q : Nat) (hv iv : Value) (wr : World) : Prop := ∃ k h : Nat, hv = .int .i64 (h : Int) ∧ iv = .int .i64 (k : Int) ∧ k ≤ q ∧ 1 ≤ h ∧ h ≤ 64 ∧ OwnPool W wr X L (Rh h)
def RefsRel2 (W : World) (X : PIx) (L : List Int) (h : Nat) (iv : Value) (wr : World) : Prop := ∃ j : Nat, iv = .int .i64 (j : Int) ∧ j ≤ h ∧ OwnPool W wr X L (Rh (h - j))
end Go.Proofs.YtkenipanpimolaaGreatDoor

/- The walk of PallocLeast. Condition: the library's table reads as its initialiser lays it. -/
namespace Go.Proofs.YtkenipanpimolaaGreatDoor
open Go.RowKit
set_option maxRecDepth 100000

/-- One range of all frames: the least free one is handed out. -/
def Pn (n : Nat) : List (Nat × Nat) := [(0, n)]
def Rk (k : Nat) : Nat → Nat := fun x => if x < k then 1 else 0
def LeastRel (W : World) (X : PIx) (n : Nat) (iv : Value) (wr : World) : Prop := ∃ (k : Nat) (L : List Int), iv = .int .i64 (k : Int) ∧ k ≤ n ∧ OwnPool W wr X L (Rk k)
end Go.Proofs.YtkenipanpimolaaGreatDoor

/- The document's own pool in memory; the contracts of its in, Owner, Refs, Left. Conditions: the pool lies as its New lays it. -/
namespace Go.Proofs.YtkenipanpimolaaGreatDoor
open Go.RowKit
set_option maxRecDepth 100000

def refsV (n : Nat) (R : Nat → Nat) : Array Value := ((List.range n).map fun i => Value.int .i64 (R i : Int)).toArray
theorem refsV_get (n : Nat) (R : Nat → Nat) (i : Nat) (h : i < n) : (refsV n R)[i]? = some (.int .i64 (R i : Int)) := by simp [refsV, h]
theorem refsV_size (n : Nat) (R : Nat → Nat) : (refsV n R).size = n := by simp [refsV]
theorem refsV_set (n : Nat) (R : Nat → Nat) (x c : Nat) (h : x < n) : (refsV n R).setIfInBounds x (.int .i64 (c : Int)) = refsV n (upd R x c) := by
  apply Array.ext_getElem?
  intro i
  rw [Array.getElem?_setIfInBounds]
  by_cases hi : i < n
  · by_cases e : x = i
    · subst e; rw [if_pos rfl, if_pos (by rw [refsV_size]; exact h), refsV_get n _ x hi, upd_same]
    · rw [if_neg e, refsV_get n R i hi, refsV_get n _ i hi, upd_other _ _ _ _ (fun e2 => e e2.symm)]
  · have e : (refsV n (upd R x c))[i]? = none := Array.getElem?_eq_none (by rw [refsV_size]; omega)
    have e2 : (refsV n R)[i]? = none := Array.getElem?_eq_none (by rw [refsV_size]; omega)
    rw [e, if_neg (by omega), e2]
def intP (P : List (Nat × Nat)) : List (Int × Int) := P.map fun p => ((p.1 : Int), (p.2 : Int))
structure ZIx where
  rp : Nat
  rb : Nat
  qb : Nat
  base : Nat
  n : Nat
  v : Value
  P : List (Nat × Nat)
def ZIx.val (Z : ZIx) : Array Value := #[Z.v, .slice (some ⟨Z.rb, 0, none⟩) (Z.n * 32) (Z.n * 32), .slice (some ⟨Z.qb, 0, none⟩) Z.n Z.n]
def ROwnRel (w : World) (P : List (Nat × Nat)) (n : Nat) (x : Int) (i : Value) (wr : World) : Prop := ∃ k : Nat, i = .int .i64 (k : Int) ∧ k ≤ n ∧ Below w.heap.size w wr ∧ ∀ j, j < k → inP (P.getD j (0, 0)) x = false
end Go.Proofs.YtkenipanpimolaaGreatDoor

/- The contracts of the document's own Refs, Left, Share, Free, layer 9. Conditions: the pool lies as its New lays it. -/
namespace Go.Proofs.YtkenipanpimolaaGreatDoor
open Go.RowKit
set_option maxRecDepth 100000

end Go.Proofs.YtkenipanpimolaaGreatDoor

/- The contracts of the document's own Left and Alloc, layer 9. Conditions: the pool lies as its New lays it. -/
namespace Go.Proofs.YtkenipanpimolaaGreatDoor
open Go.RowKit
set_option maxRecDepth 100000

def RLeftRel (w : World) (f m : Nat) (R : Nat → Nat) (cv iv : Value) (wr : World) : Prop := ∃ y : Nat, iv = .int .i64 (y : Int) ∧ f ≤ y ∧ y ≤ f + m ∧ cv = .int .i64 ((freeL (f, y - f) R).length : Int) ∧ Below w.heap.size w wr
def RAllocRel (w : World) (f m : Nat) (R : Nat → Nat) (iv : Value) (wr : World) : Prop := ∃ y : Nat, iv = .int .i64 (y : Int) ∧ f ≤ y ∧ y ≤ f + m ∧ (∀ x, f ≤ x → x < y → R x ≠ 0) ∧ Below w.heap.size w wr
end Go.Proofs.YtkenipanpimolaaGreatDoor

/- The contract of the document's own New, layer 9. Condition: the slice of ranges lies in memory. -/
namespace Go.Proofs.YtkenipanpimolaaGreatDoor
open Go.RowKit
set_option maxRecDepth 100000

theorem made_wordsM (n : Nat) : madeCells #[.int .u32 0] n = wordsV (List.replicate n 0) := by
  apply Array.ext
  · rw [size_madeCells, wordsV_size, List.length_replicate]
  · intro i h1 h2
    have h3 : i % 1 = 0 := Nat.mod_one i
    simp [madeCells, wordsV, h3]
theorem make_wordsM (n : Nat) (hn : n ≤ 1000000) (w : World) : (Instr.makeSlice 24 (.int .i64 (n : Int)) (.int .i64 (n : Int))).run Tryz.prog w = .ok (.slice (some ⟨w.heap.size, 0, none⟩) n n) (w.alloc (.cells (wordsV (List.replicate n 0)) 23)) := by
  obtain ⟨i, hi, h1, h2, h3⟩ := info_parts wordInfo
  have := run_make (P := Tryz.prog) w 24 23 i _ Tryz.underlying24 hi h1 .i64 .i64 n n (by omega) (by omega) (by rw [h3]; omega) (by omega)
  rw [h2] at this
  simpa [Value.cells, made_wordsM] using this

def RNewPostM (n : Nat) (w : World) (e : Ending) (w' : World) : Prop := ∃ rb, e = .returned (.tuple #[.agg #[.slice (some ⟨rb, 0, none⟩) (n * 32) (n * 32)], .int .i64 0]) ∧ w'.heap[rb]? = some (.cells (wordsV (List.replicate (n * 32) 0)) 23 (0, 0)) ∧ w.heap.size ≤ rb ∧ Below w.heap.size w w'
theorem made_ints (n : Nat) : madeCells #[.int .i64 0] n = refsV n R0 := by
  apply Array.ext
  · rw [size_madeCells, refsV_size]
  · intro i h1 h2
    have h3 : i % 1 = 0 := Nat.mod_one i
    simp [madeCells, refsV, h3]
theorem intInfoM : (Tryz.prog.info? 3).map (fun i => (i.zero, i.size, i.bytes)) = some (some (.int .i64 0), 1, 8) := by kernel_rfl
theorem make_intsM (n : Nat) (hn : n ≤ 1000000) (w : World) : (Instr.makeSlice 127 (.int .i64 (n : Int)) (.int .i64 (n : Int))).run Tryz.prog w = .ok (.slice (some ⟨w.heap.size, 0, none⟩) n n) (w.alloc (.cells (refsV n R0) 3)) := by
  obtain ⟨i, hi, h1, h2, h3⟩ := info_parts intInfoM
  have := run_make (P := Tryz.prog) w 127 3 i _ Tryz.underlying127 hi h1 .i64 .i64 n n (by omega) (by omega) (by rw [h3]; omega) (by omega)
  rw [h2] at this
  simpa [Value.cells, made_ints] using this

/-- How many of the first ranges have a frame. -/
def cntP (P : List (Nat × Nat)) (x : Int) : Nat → Nat
  | 0 => 0
  | k + 1 => cntP P x k + if inP (P.getD k (0, 0)) x = true then 1 else 0
/-- All ranges lie among the frames. -/
def AllIn (n : Nat) (Q : List (Int × Int)) (k : Nat) : Prop := ∀ i, i < k → isInB (Q.getD i default).1 (Q.getD i default).2 n = true
def z3 : Array Value := #[.slice none 0 0, .slice none 0 0, .slice none 0 0]
/-- What New leaves. -/
def RNew9 (n : Nat) (Q : List (Int × Int)) (v : Value) (w : World) (e : Ending) (w' : World) : Prop :=
  (¬ OkQ n Q ∧ e = .returned (.tuple #[.agg z3, .int .i64 2]) ∧ Below w.heap.size w w') ∨
  (OkQ n Q ∧ ∃ rb qb, e = .returned (.tuple #[.agg #[v, .slice (some ⟨rb, 0, none⟩) (n * 32) (n * 32), .slice (some ⟨qb, 0, none⟩) n n], .int .i64 0]) ∧ w'.heap[rb]? = some (.cells (wordsV (List.replicate (n * 32) 0)) 23 (0, 0)) ∧ w'.heap[qb]? = some (.cells (refsV n R0) 3 (0, 0)) ∧ w.heap.size ≤ rb ∧ w.heap.size ≤ qb ∧ Below w.heap.size w w')
end Go.Proofs.YtkenipanpimolaaGreatDoor
