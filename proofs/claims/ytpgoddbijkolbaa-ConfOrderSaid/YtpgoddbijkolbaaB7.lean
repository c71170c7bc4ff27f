/- The contracts of the document's own Num, Text, Left, layer 5. Condition: the reader's bytes are 2000 at most. -/
import Derived.Test.YtpgoddbijkolbaaB6
import Derived.IntWalk
namespace Go.Proofs.Ytpgoddbijkolbaa
open Go.RowKit
set_option maxRecDepth 100000

/-- The document's reader lies at block r. -/
structure RRdAt (w : World) (r : Nat) (S : List UInt8) (at_ : Nat) (fine : Bool) : Prop where
  box : w.heap[r]? = some (.cells #[strV S, .int .i64 (at_ : Int), .bool fine] 57 (0, 0))
  le : at_ ≤ S.length
  top : S.length ≤ 2000
def stateOf (S : List UInt8) (at_ : Nat) (fine : Bool) : RdS := if fine then some (S.drop at_) else none
def RRd (w : World) (r : Nat) (s : RdS) : Prop := ∃ S a f, RRdAt w r S a f ∧ s = stateOf S a f
/-- The same, of which all bytes are said. -/
def RRdL (w : World) (r : Nat) (S : List UInt8) (s : RdS) : Prop := ∃ a f, RRdAt w r S a f ∧ s = stateOf S a f
theorem RRdL.weak {w : World} {r : Nat} {S : List UInt8} {s : RdS} (h : RRdL w r S s) : RRd w r s := by
  obtain ⟨a, f, h, e⟩ := h
  exact ⟨S, a, f, h, e⟩
theorem RRdAt.c0 {w : World} {r a : Nat} {S : List UInt8} {f : Bool} (h : RRdAt w r S a f) : w.cell? ⟨r, 0, none⟩ = some (strV S) := by rw [cell_of_row w r _ _ _ _ h.box]; rfl
theorem RRdAt.c1 {w : World} {r a : Nat} {S : List UInt8} {f : Bool} (h : RRdAt w r S a f) : w.cell? ⟨r, 1, none⟩ = some (.int .i64 (a : Int)) := by rw [cell_of_row w r _ _ _ _ h.box]; rfl
theorem RRdAt.c2 {w : World} {r a : Nat} {S : List UInt8} {f : Bool} (h : RRdAt w r S a f) : w.cell? ⟨r, 2, none⟩ = some (.bool f) := by rw [cell_of_row w r _ _ _ _ h.box]; rfl
theorem RRdAt.fr {w : World} {r a : Nat} {S : List UInt8} {f : Bool} (h : RRdAt w r S a f) (i : Nat) : w.frozen? ⟨r, i, none⟩ = false := frozen_of_row w r i _ _ h.box
theorem RRdAt.heap {w w' : World} {r a : Nat} {S : List UInt8} {f : Bool} (h : RRdAt w r S a f) (e : w'.heap = w.heap) : RRdAt w' r S a f := ⟨by rw [e]; exact h.box, h.le, h.top⟩
theorem RRd.below {w w' : World} {r : Nat} {s : RdS} (h : RRd w r s) (hb : Below w.heap.size w w') : RRd w' r s := by
  obtain ⟨S, a, f, h, e⟩ := h
  exact ⟨S, a, f, ⟨below_block hb h.box, h.le, h.top⟩, e⟩
theorem RRd.lt {w : World} {r : Nat} {s : RdS} (h : RRd w r s) : r < w.heap.size := by
  obtain ⟨S, a, f, h, e⟩ := h
  exact lt_of_block h.box
theorem RRdAt.bad {w : World} {r a : Nat} {S : List UInt8} {f : Bool} (m : Nat) (h : RRdAt w r S a f) : RRdL ((w.drewN m).setCell ⟨r, 2, none⟩ (.bool false)) r S none ∧ w.grownBy ((w.drewN m).setCell ⟨r, 2, none⟩ (.bool false)) (some r) := by
  refine ⟨⟨a, false, ⟨?_, h.le, h.top⟩, rfl⟩, grownBy_from (b := w.drewN m) (grownBy_setCell _ _ _ _) rfl rfl rfl rfl⟩
  exact heap_setCell_same (w.drewN m) r 2 _ _ (.bool false) h.box

def RNumPost (w : World) (r : Nat) (a : Nat) (s : RdS) (e : Ending) (w' : World) : Prop := e = .returned (.int .u32 (a : Int)) ∧ RRd w' r s ∧ w.grownBy w' (some r)
def RNumPostL (w : World) (r : Nat) (S : List UInt8) (a : Nat) (s : RdS) (e : Ending) (w' : World) : Prop := e = .returned (.int .u32 (a : Int)) ∧ RRdL w' r S s ∧ w.grownBy w' (some r)
set_option maxHeartbeats 1000000 in
theorem rnum_bad0 (r : Nat) (S : List UInt8) (at_ : Nat) (k : Int)  (w : World) (h : RRdAt w r S at_ false) :
    Calls Try.prog 39 #[.pointer (some ⟨r, 0, none⟩), .int .i64 k] w (RNumPostL w r S 0 none) := by
  have H := Lib.hid h
  have c0 := h.c0
  have c1 := h.c1
  have c2 := h.c2
  have f2 := h.fr 2
  have hl := h.le
  have ht := h.top
  have hs : (ByteArray.mk S.toArray).size = S.length := by simp [ByteArray.size]
  clear h
  go_enter Try.func39, Try.ntmps39
  go_wp2
  go_quiet (fail)
  go_wp2
  go_ret
  exact ⟨rfl, H.out.bad nq⟩
set_option maxHeartbeats 1000000 in
theorem rnum_bad1 (r : Nat) (S : List UInt8) (at_ : Nat) (k : Int) (h1 : k < 1) (w : World) (h : RRdAt w r S at_ true) :
    Calls Try.prog 39 #[.pointer (some ⟨r, 0, none⟩), .int .i64 k] w (RNumPostL w r S 0 none) := by
  have H := Lib.hid h
  have c0 := h.c0
  have c1 := h.c1
  have c2 := h.c2
  have f2 := h.fr 2
  have hl := h.le
  have ht := h.top
  have hs : (ByteArray.mk S.toArray).size = S.length := by simp [ByteArray.size]
  clear h
  go_enter Try.func39, Try.ntmps39
  go_wp2
  go_quiet (fail)
  go_wp2
  go_ret
  exact ⟨rfl, H.out.bad nq⟩
set_option maxHeartbeats 1000000 in
theorem rnum_bad2 (r : Nat) (S : List UInt8) (at_ : Nat) (k : Int) (h1 : 1 ≤ k) (h2 : 4 < k) (w : World) (h : RRdAt w r S at_ true) :
    Calls Try.prog 39 #[.pointer (some ⟨r, 0, none⟩), .int .i64 k] w (RNumPostL w r S 0 none) := by
  have H := Lib.hid h
  have c0 := h.c0
  have c1 := h.c1
  have c2 := h.c2
  have f2 := h.fr 2
  have hl := h.le
  have ht := h.top
  have hs : (ByteArray.mk S.toArray).size = S.length := by simp [ByteArray.size]
  have d1 : decide (k < 1) = false := by simpa using h1
  have d2 : decide (4 < k) = true := by simpa using h2
  clear h h1 h2
  go_enter Try.func39, Try.ntmps39
  go_wp2
  go_quiet (fail)
  go_wp2
  go_ret
  exact ⟨rfl, H.out.bad nq⟩
set_option maxHeartbeats 1000000 in
theorem rnum_bad3 (r : Nat) (S : List UInt8) (at_ : Nat) (k : Int) (h1 : 1 ≤ k) (h2 : k ≤ 4) (h3 : (S.length : Int) - at_ < k) (w : World) (h : RRdAt w r S at_ true) :
    Calls Try.prog 39 #[.pointer (some ⟨r, 0, none⟩), .int .i64 k] w (RNumPostL w r S 0 none) := by
  have H := Lib.hid h
  have c0 := h.c0
  have c1 := h.c1
  have c2 := h.c2
  have f2 := h.fr 2
  have hl := h.le
  have ht := h.top
  have hs : (ByteArray.mk S.toArray).size = S.length := by simp [ByteArray.size]
  have d1 : decide (k < 1) = false := by simpa using h1
  have d2 : decide (4 < k) = false := by simpa using h2
  have d3 : decide ((S.length : Int) - at_ < k) = true := by simpa using h3
  have d4 : IntKind.i64.wrap ((S.length : Int) - at_) = (S.length : Int) - at_ := IntWalk.i64_in _ (by omega)
  clear h h1 h2 h3
  go_enter Try.func39, Try.ntmps39
  go_wp2
  go_quiet (fail)
  go_wp2
  go_ret
  exact ⟨rfl, H.out.bad nq⟩
end Go.Proofs.Ytpgoddbijkolbaa
