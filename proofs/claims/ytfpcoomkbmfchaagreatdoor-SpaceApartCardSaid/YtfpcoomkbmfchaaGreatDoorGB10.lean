/- Texts of mine, joined: W10. What each says and under which conditions stands at its head, below. -/
import Derived.Test.YtfpcoomkbmfchaaGreatDoorGB
import Derived.Deep.RegionWith
import Derived.Deep.RegionHeld3
/- The walks of the laws WordGet and WordEntry. Conditions: the two tables read as laid. -/
namespace Go.Proofs.YtfpcoomkbmfchaaGreatDoor
open Go.RowKit
set_option maxRecDepth 100000

/-- A word that is none: Get refuses it. -/
theorem get_bad (a : Int) (p w c : Bool) (f : Int) (W : World) (h0 : 0 ≤ a) (h1 : a < 4294967296) (hp : a / 1 % 2 = bit p) (hw : a / 2 % 2 = bit w) (hc : a / 4 % 2 = bit c) (hf : a / 256 % 1024 = f) (hbad : ¬ (okE p w c f = true ∧ wordOf p w c f = a)) (hL : LaidW W) :
    Calls Tryz.prog 174 #[.int .u32 a] W fun e w' => e = .returned (.tuple #[ent false false false 0, .int .i64 6]) ∧ Below W.heap.size W w' := by
  by_cases hok : okE p w c f = true
  · exact get_ne a p w c f W h0 h1 hp hw hc hf hok (by rw [bne_iff_ne]; exact fun h => hbad ⟨hok, h⟩) hL
  · exact get_no a p w c f W h0 h1 hp hw hc hf (by simpa using hok) hL
end Go.Proofs.YtfpcoomkbmfchaaGreatDoor
