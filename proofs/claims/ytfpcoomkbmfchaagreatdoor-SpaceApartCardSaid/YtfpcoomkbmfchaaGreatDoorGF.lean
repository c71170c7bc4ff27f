/- Texts of mine, joined: M14 M15. What each says and under which conditions stands at its head, below. -/
import Derived.Test.YtfpcoomkbmfchaaGreatDoorGE13
import Derived.Deep.RegionHeld3
/- The contract of play, layer 2's laws: it returns true, and both memories go on alike. Conditions: both have the same words. -/
namespace Go.Proofs.YtfpcoomkbmfchaaGreatDoor
open Go.RowKit
set_option maxRecDepth 100000

end Go.Proofs.YtfpcoomkbmfchaaGreatDoor

/- The contract of the document's own New, layer 2, and the walk of MemPlays. Conditions: the script lies as its slice says. -/
namespace Go.Proofs.YtfpcoomkbmfchaaGreatDoor
open Go.RowKit
set_option maxRecDepth 100000

def RNewPost (n : Nat) (w : World) (e : Ending) (w' : World) : Prop := ∃ rb, e = .returned (.tuple #[.agg #[.slice (some ⟨rb, 0, none⟩) (n * 32) (n * 32)], .int .i64 0]) ∧ w'.heap[rb]? = some (.cells (wordsV (List.replicate (n * 32) 0)) 25 (0, 0)) ∧ w.heap.size ≤ rb ∧ Below w.heap.size w w'
/-- A slice of calls: each one's four cells. -/
abbrev OpD := Int × Int × Int × Int
def OpsAt (w : World) (v : Value) (S : List OpD) : Prop := ∃ a c, v = .slice a S.length c ∧ (S = [] ∨ ∃ b o, a = some ⟨b, o, none⟩ ∧ b < w.heap.size ∧ ∀ i, i < S.length →
  w.cell? ⟨b, o + i * 4, none⟩ = some (.int .i64 (S.getD i default).1) ∧ w.cell? ⟨b, o + i * 4 + 1, none⟩ = some (.int .i64 (S.getD i default).2.1) ∧ w.cell? ⟨b, o + i * 4 + 2, none⟩ = some (.int .i64 (S.getD i default).2.2.1) ∧ w.cell? ⟨b, o + i * 4 + 3, none⟩ = some (.int .u32 (S.getD i default).2.2.2))
end Go.Proofs.YtfpcoomkbmfchaaGreatDoor
