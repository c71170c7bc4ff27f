/- The contracts of the document's own answers for layer 2: Zero, Copy, Page. Conditions: its words lie in a block. -/
import Derived.Test.YteohfonmckahgaaM11
import Derived.Outline
import Derived.IntWalk
namespace Go.Proofs.Yteohfonmckahgaa
open Go.RowKit
set_option maxRecDepth 100000

theorem ext_getD {A B : List Int} (hl : A.length = B.length) (h : ∀ j, j < A.length → A.getD j 0 = B.getD j 0) : A = B := by
  apply List.ext_getElem hl
  intro i h1 h2
  have := h i h1
  simpa [List.getD_eq_getElem?_getD, h1, h2] using this
theorem putRow_ext {L K R : List Int} {n t : Nat} (hl : L.length = n * 32) (hk : K.length = n * 32) (ht : t < n) (hR : R.length = 32) (h : ∀ j, j < n * 32 → K.getD j 0 = if t * 32 ≤ j ∧ j < t * 32 + 32 then R.getD (j - t * 32) 0 else L.getD j 0) : K = putRow L t R := by
  refine ext_getD (by rw [hk, putRow_length hl ht hR]) fun j hj => ?_
  rw [hk] at hj
  have e : j = j / 32 * 32 + j % 32 := by omega
  rw [h j hj]
  conv => rhs; rw [e]
  rw [getD_putRow hl ht hR (Nat.mod_lt _ (by decide)), ← e]
  by_cases h1 : t = j / 32
  · rw [if_pos h1, if_pos (by omega)]
    congr 1
    omega
  · rw [if_neg h1, if_neg (by omega)]

def RZeroRel (w : World) (rp rb n f : Nat) (L : List Int) (i : Value) (wr : World) : Prop := ∃ (k : Nat) (K : List Int), i = .int .i64 k ∧ k ≤ 32 ∧ RPuts w wr rp rb n K ∧ ∀ j, K.getD j 0 = if f * 32 ≤ j ∧ j < f * 32 + k then 0 else L.getD j 0
def RCopyRel (w : World) (rp rb n t f : Nat) (L : List Int) (i : Value) (wr : World) : Prop := ∃ (k : Nat) (K : List Int), i = .int .i64 k ∧ k ≤ 32 ∧ RPuts w wr rp rb n K ∧ ∀ j, K.getD j 0 = if t * 32 ≤ j ∧ j < t * 32 + k then L.getD (f * 32 + (j - t * 32)) 0 else L.getD j 0
theorem RPuts.drew {w w' : World} {rp rb n : Nat} {L : List Int} (h : RPuts w w' rp rb n L) : RPuts w w'.drew rp rb n L := ⟨⟨h.st.box, h.st.row, h.st.len, h.st.ne, h.st.top⟩, grownBy_heap h.grown rfl rfl rfl rfl⟩
set_option maxRecDepth 100000 in
set_option maxHeartbeats 400000 in
theorem rpage_no (a : Option Addr) (n c : Nat) (f : Int) (w : World) (hn : n ≤ 1024) (h : ¬ okFQ n f 0) :
    Calls Try.prog 21 #[.agg #[.slice a (n * 32) c], .int .i64 f] w fun e w' => e = .returned (.tuple #[.slice none 0 0, .int .i64 2]) ∧ Below w.heap.size w w' := by
  have B0 := Lib.hid ((Below.refl w.heap.size w).alloc (Nat.le_refl _) (.cells #[.slice a (n * 32) c] 39))
  have H := Lib.hid h
  clear h
  go_enter Try.func21, Try.ntmps21
  go_wp2_with fail
  refine (rin_no a n c f 0 _ hn H.out).mono ?_
  rintro e w1 ⟨rfl, hb⟩
  have B1 := Lib.hid (B0.out.trans (hb.mono B0.out.size))
  clear hb
  go_wp2
  go_ret2
  exact ⟨rfl, B1.out⟩
end Go.Proofs.Yteohfonmckahgaa
