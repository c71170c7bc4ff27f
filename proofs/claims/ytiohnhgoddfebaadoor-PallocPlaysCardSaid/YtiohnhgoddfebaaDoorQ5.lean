/- The contracts of math/bits.TrailingZeros64, and of package pick's rising and of what it makes. Conditions: the library's table reads as its initialiser lays it; the set lies as New laid it. -/
import Derived.Test.YtiohnhgoddfebaaDoorQ4
import Derived.Deep.WholeRow
import Derived.OneCell
namespace Go.Proofs.YtiohnhgoddfebaaDoor
open Go.RowKit
set_option maxRecDepth 100000

/-- The library's table lies as laid. -/
def LaidQ (w : World) : Prop := ∀ j, j < 64 → w.cell? ⟨0, j, none⟩ = some (.int .u8 ((Lib.deBruijn64tab.getD j 0 : Nat) : Int))
theorem LaidQ.below {w w' : World} (h : LaidQ w) (hb : Below w.heap.size w w') : LaidQ w' := fun j hj => (hb.cell (p := ⟨0, j, none⟩) (block_lt_of_cell (h j hj))).trans (h j hj)
theorem LaidQ.lt {w : World} (h : LaidQ w) : 0 < w.heap.size := block_lt_of_cell (h 0 (by decide))
theorem LaidQ.of_block {w w' : World} (h : LaidQ w) (hb : w'.heap[0]? = w.heap[0]?) : LaidQ w' := fun j hj => (World.cell?_of_block (w := w) hb).trans (h j hj)

set_option maxHeartbeats 1000000 in
theorem tz_core (x k idx : Nat) (w : World) (hx0 : ((x : Int) == 0) = false)
    (key : IntKind.u64.wrap (bits BinOp.and IntKind.u64 (x : Int) (IntKind.u64.wrap (-(x : Int))) * 285870213051353865) / 288230376151711744 = (idx : Int))
    (hi : idx < 64) (hk : k < 64) (hcell : w.cell? ⟨0, idx, none⟩ = some (.int .u8 k)) :
    Calls Tryd.prog 63 #[.int .u64 x] w fun e w' => e = .returned (.int .i64 k) ∧ w' = w := by
  go_enter Tryd.func63, Tryd.ntmps63
  go_wp2_with (simp only [key])
  go_ret
  exact ⟨rfl, rfl⟩
theorem tz_key (x a : Nat) (hx : x < 18446744073709551616) (hx0 : x ≠ 0) (hlow : x &&& (18446744073709551616 - x) = a) :
    IntKind.u64.wrap (bits BinOp.and IntKind.u64 (x : Int) (IntKind.u64.wrap (-(x : Int))) * 285870213051353865) / 288230376151711744 = ((a * 285870213051353865 % 18446744073709551616 / 288230376151711744 : Nat) : Int) := by
  have e1 : IntKind.u64.wrap (-(x : Int)) = ((18446744073709551616 - x : Nat) : Int) := by rw [IntKind.wrap_u64]; omega
  rw [e1, bits_and_u64_nat x _ hx (by omega), hlow, IntKind.wrap_u64]
  omega
theorem tz_ok (x : Nat) (hx : x < 18446744073709551616) (hx0 : x ≠ 0) (w : World) (hT : LaidQ w) :
    Calls Tryd.prog 63 #[.int .u64 x] w fun e w' => e = .returned (.int .i64 ((Lib.ctz 64 x : Nat) : Int)) ∧ w' = w := by
  obtain ⟨hlow, hk⟩ := Lib.lowest_bit 64 x hx0 hx
  obtain ⟨hi, htab⟩ := Lib.deBruijn64_at _ hk
  have hcell := hT _ hi
  rw [htab] at hcell
  exact tz_core x _ _ w (by simp; omega) (tz_key x _ hx hx0 hlow) hi hk hcell

/-- What is left to be told: the place and the words of one's own. -/
structure Iter (w : World) (ba bw : Nat) (a : Nat) (R : List Nat) : Prop where
  good : Good R
  at_ : w.heap[ba]? = some (.cells #[.int .i64 (a : Int)] 3 (0, 0))
  row : w.heap[bw]? = some (.cells (bitsV R).toArray 107 (0, 0))
  ne : ba ≠ bw
  top : a ≤ 16
  low : ∀ i, i < a → word R i = 0
/-- All but two blocks are as they were. -/
structure Two (w w' : World) (p q : Nat) : Prop where
  os : w'.os = w.os
  tape : w'.tape = w.tape
  output : w'.output = w.output
  size : w.heap.size ≤ w'.heap.size
  block : ∀ k, k < w.heap.size → k ≠ p → k ≠ q → w'.heap[k]? = w.heap[k]?
theorem Two.refl (w : World) (p q : Nat) : Two w w p q := ⟨rfl, rfl, rfl, Nat.le_refl _, fun _ _ _ _ => rfl⟩
theorem Two.trans {a b c : World} {p q : Nat} (h : Two a b p q) (k : Two b c p q) : Two a c p q :=
  ⟨k.os.trans h.os, k.tape.trans h.tape, k.output.trans h.output, Nat.le_trans h.size k.size, fun i hi h1 h2 => (k.block i (Nat.lt_of_lt_of_le hi h.size) h1 h2).trans (h.block i hi h1 h2)⟩
theorem Two.first {w w' : World} {p : Nat} (h : w.grownBy w' (some p)) (q : Nat) : Two w w' p q := ⟨h.os, h.tape, h.output, h.size, fun k hk h1 _ => h.block k hk (fun e => h1 (Option.some.inj e))⟩
theorem Two.second {w w' : World} {q : Nat} (h : w.grownBy w' (some q)) (p : Nat) : Two w w' p q := ⟨h.os, h.tape, h.output, h.size, fun k hk _ h2 => h.block k hk (fun e => h2 (Option.some.inj e))⟩
theorem Two.heap {a b c : World} {p q : Nat} (h : Two a b p q) (e1 : c.heap = b.heap) (e2 : c.os = b.os) (e3 : c.tape = b.tape) (e4 : c.output = b.output) : Two a c p q :=
  ⟨e2.trans h.os, e3.trans h.tape, e4.trans h.output, by rw [e1]; exact h.size, fun k hk h1 h2 => by rw [e1]; exact h.block k hk h1 h2⟩
theorem Two.below {w w' : World} {p q : Nat} (h : Two w w' p q) {B : Nat} (hB : B ≤ w.heap.size) (hp : B ≤ p) (hq : B ≤ q) : Below B w w' := ⟨h.os, h.tape, h.output, h.size, fun k hk => h.block k (by omega) (by omega) (by omega)⟩
theorem Iter.cellA {w : World} {ba bw a : Nat} {R : List Nat} (h : Iter w ba bw a R) : w.cell? ⟨ba, 0, none⟩ = some (.int .i64 (a : Int)) := cell_of_one h.at_
theorem Iter.freeA {w : World} {ba bw a : Nat} {R : List Nat} (h : Iter w ba bw a R) : w.frozen? ⟨ba, 0, none⟩ = false := free_of_one h.at_
theorem Iter.cellW {w : World} {ba bw a : Nat} {R : List Nat} (h : Iter w ba bw a R) (i : Nat) (hi : i < 16) : w.cell? ⟨bw, i, none⟩ = some (.int .u64 (word R i : Int)) := by
  rw [cell_of_row w bw _ _ _ _ h.row, List.getElem?_toArray]; exact bitsV_get R i hi
theorem Iter.freeW {w : World} {ba bw a : Nat} {R : List Nat} (h : Iter w ba bw a R) (i : Nat) : w.frozen? ⟨bw, i, none⟩ = false := frozen_of_row w bw i _ _ h.row
theorem Iter.kept {w w' : World} {ba bw a : Nat} {R : List Nat} (h : Iter w ba bw a R) (h1 : w'.heap[ba]? = w.heap[ba]?) (h2 : w'.heap[bw]? = w.heap[bw]?) : Iter w' ba bw a R :=
  ⟨h.good, h1.trans h.at_, h2.trans h.row, h.ne, h.top, h.low⟩
theorem Iter.below {w w' : World} {ba bw a : Nat} {R : List Nat} (h : Iter w ba bw a R) (hb : Below w.heap.size w w') : Iter w' ba bw a R :=
  h.kept (hb.block ba (lt_of_block h.at_)) (hb.block bw (lt_of_block h.row))
theorem heap_set_one {w : World} {b : Nat} {u : Value} {t : TypeId} (h : w.heap[b]? = some (.cells #[u] t (0, 0))) (v : Value) : (w.setCell ⟨b, 0, none⟩ v).heap[b]? = some (.cells #[v] t (0, 0)) := by
  have := heap_setCell_same w b 0 #[u] t v h
  simpa using this
theorem Iter.next {w : World} {ba bw a : Nat} {R : List Nat} (h : Iter w ba bw a R) (ha : a < 16) (h0 : word R a = 0) : Iter (w.setCell ⟨ba, 0, none⟩ (.int .i64 ((a : Int) + 1))) ba bw (a + 1) R :=
  ⟨h.good, heap_set_one h.at_ _, (Below.heap_setCell _ _ _ _ (fun e => h.ne e.symm)).trans h.row, h.ne, ha, fun i hi => by
    by_cases e : i = a
    · rw [e]; exact h0
    · exact h.low i (by omega)⟩
theorem Iter.least {w : World} {ba bw a n : Nat} {r : List Nat} (h : Iter w ba bw a (n :: r)) (h0 : word (n :: r) a ≠ 0) : a = n / 64 := by
  have h1 := (least_word h.good).1
  by_cases e : a < n / 64
  · exact absurd (low_word h.good a e) h0
  · by_cases e2 : n / 64 < a
    · exact absurd (h.low _ e2) h1
    · omega
theorem Iter.done {w : World} {ba bw : Nat} {R : List Nat} (h : Iter w ba bw 16 R) : R = [] := by
  cases R with
  | nil => rfl
  | cons n r =>
    have h1 := (least_word h.good).1
    have h2 := h.good.top n (by simp)
    exact absurd (h.low (n / 64) (by omega)) h1
theorem Iter.take {w : World} {ba bw a n : Nat} {r : List Nat} (h : Iter w ba bw a (n :: r)) (ha : a = n / 64) (m : Nat) (x : Nat) (hx : word r a = x) : Iter ((w.setCell ⟨bw, a, none⟩ (.int .u64 (x : Int))).drewN m) ba bw a r := by
  have h16 : a < 16 := by have := h.good.top n (by simp); omega
  refine ⟨h.good.tail, (Below.heap_setCell _ _ _ _ h.ne).trans h.at_, ?_, h.ne, h.top, fun i hi => ?_⟩
  · have := heap_setCell_same w bw a (bitsV (n :: r)).toArray 107 (.int .u64 (x : Int)) h.row
    refine Eq.trans this ?_
    rw [List.setIfInBounds_toArray, bitsV_set (n :: r) r a x hx (fun i hi => (rest_word i (by omega)))]
  · rw [rest_word (n := n) i (by omega)]; exact h.low i hi

def atOf (w : World) (b : Nat) : Nat := match w.cell? ⟨b, 0, none⟩ with | some v => (intOf v).toNat | none => 0
theorem atOf_of {w : World} {b : Nat} {k : Int} (h : w.cell? ⟨b, 0, none⟩ = some (.int .i64 k)) : atOf w b = k.toNat := by simp [atOf, h, intOf]
/-- What the next call tells, and what is left then. -/
def nextA : List Nat → Int × Bool × List Nat
  | [] => (0, false, [])
  | n :: r => (n, true, r)
def NextPost (w : World) (ba bw : Nat) (R : List Nat) (e : Ending) (w' : World) : Prop := e = .returned (.tuple #[.int .i64 (nextA R).1, .bool (nextA R).2.1]) ∧ (∃ a, Iter w' ba bw a (nextA R).2.2) ∧ Two w w' ba bw
set_option maxHeartbeats 2000000 in
theorem next_ok (ba bw a0 : Nat) (R : List Nat) (w : World) (h : Iter w ba bw a0 R) (hT : LaidQ w) (hq1 : 0 ≠ ba) (hq2 : 0 ≠ bw) :
    Calls Tryd.prog 62 #[.pointer (some ⟨ba, 0, none⟩), .pointer (some ⟨bw, 0, none⟩)] w (NextPost w ba bw R) := by
  have H := Lib.hid h
  have HT := Lib.hid hT
  clear h hT
  go_enter Tryd.func62, Tryd.ntmps62
  go_wp2_with fail
  go_loopw [] (fun wr => ∃ a, Iter wr ba bw a R ∧ Two w wr ba bw) (fun wr => 16 - atOf wr ba)
  case atStart => exact ⟨a0, H.out, Two.refl _ _ _⟩
  case round =>
    obtain ⟨a, hi, ht⟩ := hrel
    have I := Lib.hid hi
    have T := Lib.hid ht
    have ca := hi.cellA
    have fa := hi.freeA
    have htop := hi.top
    clear hi ht
    by_cases hlt : a < 16
    · have cw := I.out.cellW a hlt
      have fw := I.out.freeW a
      by_cases h0 : word R a = 0
      · have N := Lib.hid (I.out.next hlt h0)
        rw [h0] at cw
        have M := Lib.hid (atOf_of ca)
        clear h0
        go_wp2
        go_roundw
        case rel => exact ⟨a + 1, N.out, T.out.trans (Two.first (grownBy_setCell _ _ _ _) _)⟩
        case measure => rw [M.out, atOf_of N.out.cellA]; omega
      · cases R with
        | nil => exact absurd (word_nil a) h0
        | cons n r =>
          have ha := I.out.least h0
          obtain ⟨l1, l2, l3⟩ := least_word I.out.good
          rw [← ha] at l1 l2 l3
          have hx := word_lt (n :: r) a
          have TK : Hid (∀ m, Iter ((wr.setCell ⟨bw, a, none⟩ (.int .u64 (word r a : Int))).drewN m) ba bw a r) := Lib.hid fun m => I.out.take ha m _ rfl
          have hy := word_lt r a
          have HA : Hid (64 * a + n % 64 = n) := Lib.hid (by omega)
          have hn : n < 1024 := I.out.good.top n (by simp)
          have hj : n % 64 < 64 := Nat.mod_lt _ (by decide)
          generalize n % 64 = j at l2 HA hj
          generalize word (n :: r) a = x at h0 cw l1 l2 l3 hx
          generalize word r a = y at l3 TK hy
          have P := Lib.hid (fun W (hW : LaidQ W) => tz_ok x hx h0 W hW)
          rw [l2] at P
          have hne : ((x : Int) == 0) = false := by simp; omega
          have hsub : IntKind.u64.wrap ((x : Int) - 1) = ((x - 1 : Nat) : Int) := by rw [IntKind.wrap_u64]; omega
          have hand : bits BinOp.and IntKind.u64 (x : Int) ((x - 1 : Nat) : Int) = (y : Int) := by rw [bits_and_u64_nat x (x - 1) hx (by omega), l3]
          have LQ : Hid (LaidQ (wr.setCell ⟨bw, a, none⟩ (.int .u64 (y : Int)))) := Lib.hid ((HT.out.of_block (T.out.block _ HT.out.lt hq1 hq2)).of_block (Below.heap_setCell _ _ _ _ hq2))
          have ca2 : (wr.setCell ⟨bw, a, none⟩ (.int .u64 (y : Int))).cell? ⟨ba, 0, none⟩ = some (.int .i64 (a : Int)) := (TK.out 0).cellA
          generalize x - 1 = x1 at hsub hand
          clear l1 l2 l3 h0 ha hx
          go_wp2_with fail
          go_quiet ((go_at_call 63; exact Calls.quiet_of_same (P.out _ LQ.out)))
          go_wp2
          go_ret2
          exact ⟨by show Ending.returned (.tuple #[.int .i64 (64 * (a : Int) + (j : Int)), .bool true]) = _; rw [show 64 * (a : Int) + (j : Int) = (n : Int) by have := HA.out; omega]; rfl, ⟨a, TK.out nq⟩, (T.out.trans (Two.second (grownBy_setCell _ _ _ _) _)).heap rfl rfl rfl rfl⟩
    · obtain rfl : a = 16 := by omega
      have hR := I.out.done
      subst hR
      go_wp2
      go_ret2
      exact ⟨rfl, ⟨16, I.out⟩, T.out⟩
end Go.Proofs.YtiohnhgoddfebaaDoor
