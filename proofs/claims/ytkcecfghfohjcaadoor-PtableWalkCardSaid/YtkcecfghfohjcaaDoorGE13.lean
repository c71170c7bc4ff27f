/- Texts of mine, joined: M13. What each says and under which conditions stands at its head, below. -/
import Derived.Test.YtkcecfghfohjcaaDoorGE12
import Derived.OwnWalk
/- The contract of the document's own Page, layer 2. Conditions: its words lie in a block. -/
namespace Go.Proofs.YtkcecfghfohjcaaDoor
open Go.RowKit
set_option maxRecDepth 100000

theorem wordInfo : (Tryd.prog.info? 70).map (fun i => (i.zero, i.size, i.bytes)) = some (some (.int .u32 0), 1, 4) := by kernel_rfl
theorem rowAt_of_owns {w : World} {base n : Nat} {e : TypeId} {v : Value} {L : List Int} (h : w.ownsRow base e 1 v n (L.map (Value.int .u32))) (hn : L ≠ []) : RowAt w v L := by
  obtain ⟨h1, h2⟩ := h
  have hl : n = L.length := by simp at h1; omega
  subst hl
  rcases h2 with ⟨_, h2⟩ | ⟨g, cap, cur, rfl, hb, hg, hc, hm, hs, ht⟩
  · exact absurd (List.length_eq_zero_iff.1 h2) hn
  · refine ⟨_, _, rfl, Or.inr ⟨g, 0, rfl, lt_of_block hg, fun i hi => ?_⟩⟩
    rw [cell_of_row w g _ _ _ _ hg, Nat.zero_add]
    have : (cur.toList.take (L.length * 1))[i]? = (L.map (Value.int .u32))[i]? := by rw [ht]
    rw [List.getElem?_take, if_pos (by omega)] at this
    rw [← Array.getElem?_toList, this]
    simp [hi]

def RPagePost (w : World) (R : List Int) (e : Ending) (w' : World) : Prop := ∃ v, e = .returned (.tuple #[v, .int .i64 0]) ∧ RowAt w' v R ∧ Below w.heap.size w w'
end Go.Proofs.YtkcecfghfohjcaaDoor
