/- Texts of mine, joined: M12. What each says and under which conditions stands at its head, below. -/
import Derived.Test.YtkcecfghfohjcaaDoorGE
import Derived.Outline
import Derived.IntWalk
/- The contracts of the document's own answers for layer 2: Zero, Copy, Page. Conditions: its words lie in a block. -/
namespace Go.Proofs.YtkcecfghfohjcaaDoor
open Go.RowKit
set_option maxRecDepth 100000

theorem ext_getD {A B : List Int} (hl : A.length = B.length) (h : ∀ j, j < A.length → A.getD j 0 = B.getD j 0) : A = B := by
  apply List.ext_getElem hl
  intro i h1 h2
  have := h i h1
  simpa [List.getD_eq_getElem?_getD, h1, h2] using this
theorem putRow_ext {L K R : List Int} {n t : Nat} (hl : L.length = n * 32) (hk : K.length = n * 32) (ht : t < n) (hR : R.length = 32) (h : ∀ j, j < n * 32 → K.getD j 0 = if t * 32 ≤ j ∧ j < t * 32 + 32 then R.getD (j - t * 32) 0 else L.getD j 0) : K = putRow L t R := by
  refine ext_getD (by rw [hk, putRow_length hl ht hR]) fun j hj => ?_
  rw [hk] at hj
  have e : j = j / 32 * 32 + j % 32 := by omega
  rw [h j hj]
  conv => rhs; rw [e]
  rw [getD_putRow hl ht hR (Nat.mod_lt _ (by decide)), ← e]
  by_cases h1 : t = j / 32
  · rw [if_pos h1, if_pos (by omega)]
    congr 1
    omega
  · rw [if_neg h1, if_neg (by omega)]

end Go.Proofs.YtkcecfghfohjcaaDoor
