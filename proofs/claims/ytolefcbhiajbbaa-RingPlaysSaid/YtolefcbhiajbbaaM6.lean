/- The contracts of package mem's Copy and New. Conditions: the memory lies as New laid it, or there is none. -/
import Derived.Test.YtolefcbhiajbbaaM5
namespace Go.Proofs.Ytolefcbhiajbbaa
open Go.RowKit
set_option maxRecDepth 100000

theorem made_page (n : Nat) : madeCells (wordsV zeros) (n * 32) = wordsV (List.replicate (n * 32) 0) := by
  have e : ∀ i, i < 32 → (wordsV zeros)[i]! = .int .u32 0 := fun i hi => by
    rw [show wordsV zeros = Array.replicate 32 (.int .u32 0) from rfl, getElem!_pos _ i (by simpa using hi), Array.getElem_replicate]
  apply Array.ext
  · rw [size_madeCells, wordsV_size, List.length_replicate]
  · intro i h1 h2
    have h3 : i % (wordsV zeros).size < 32 := Nat.mod_lt _ (by decide)
    have : (madeCells (wordsV zeros) (n * 32))[i] = (wordsV zeros)[i % (wordsV zeros).size]! := by simp only [madeCells, Array.getElem_map, Array.getElem_range]
    rw [this, e _ h3]
    simp [wordsV]
end Go.Proofs.Ytolefcbhiajbbaa
