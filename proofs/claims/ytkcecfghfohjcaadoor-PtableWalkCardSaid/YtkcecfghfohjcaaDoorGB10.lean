/- Texts of mine, joined: W10. What each says and under which conditions stands at its head, below. -/
import Derived.Test.YtkcecfghfohjcaaDoorGB
import Derived.Deep.RegionWith
import Derived.Deep.RegionHeld3
/- The walks of the laws WordGet and WordEntry. Conditions: the two tables read as laid. -/
namespace Go.Proofs.YtkcecfghfohjcaaDoor
open Go.RowKit
set_option maxRecDepth 100000

/-- The bits of a word, as an entry's. -/
theorem bits_of (a : Int) : ∃ p w c : Bool, a / 1 % 2 = bit p ∧ a / 2 % 2 = bit w ∧ a / 4 % 2 = bit c := by
  refine ⟨decide (a % 2 = 1), decide (a / 2 % 2 = 1), decide (a / 4 % 2 = 1), ?_, ?_, ?_⟩
  · by_cases h : a % 2 = 1 <;> simp [bit, h]; omega
  · by_cases h : a / 2 % 2 = 1 <;> simp [bit, h]; omega
  · by_cases h : a / 4 % 2 = 1 <;> simp [bit, h]; omega
/-- A word that is none: Get refuses it. -/
theorem get_bad (a : Int) (p w c : Bool) (f : Int) (W : World) (h0 : 0 ≤ a) (h1 : a < 4294967296) (hp : a / 1 % 2 = bit p) (hw : a / 2 % 2 = bit w) (hc : a / 4 % 2 = bit c) (hf : a / 256 % 1024 = f) (hbad : ¬ (okE p w c f = true ∧ wordOf p w c f = a)) (hL : LaidW W) :
    Calls Tryd.prog 78 #[.int .u32 a] W fun e w' => e = .returned (.tuple #[ent false false false 0, .int .i64 6]) ∧ Below W.heap.size W w' := by
  by_cases hok : okE p w c f = true
  · exact get_ne a p w c f W h0 h1 hp hw hc hf hok (by rw [bne_iff_ne]; exact fun h => hbad ⟨hok, h⟩) hL
  · exact get_no a p w c f W h0 h1 hp hw hc hf (by simpa using hok) hL
/-- Which words are of entries that may be, by numbers alone. -/
theorem word_iff (a : Int) (p w c : Bool) (h0 : 0 ≤ a) (hp : a / 1 % 2 = bit p) (hw : a / 2 % 2 = bit w) (hc : a / 4 % 2 = bit c) : wordOf p w c (a / 256 % 1024) = a ↔ (a < 262144 ∧ a / 8 % 32 = 0) := by
  unfold wordOf
  rw [← hp, ← hw, ← hc]
  omega
end Go.Proofs.YtkcecfghfohjcaaDoor
