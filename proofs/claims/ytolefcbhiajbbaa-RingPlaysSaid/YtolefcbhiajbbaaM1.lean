/- The contracts of the helpers of package mem: Frames, and what asks for a place of a frame. Conditions: the memory lies as New laid it. -/
import Derived.Test.YtolefcbhiajbbaaRows
import Derived.WalkKit
import Derived.WalkSpells
import Derived.WalkLawsBesides
import Derived.Deep.QuietTactic
import Derived.BigQuiet
import Derived.Lib.Hide
import Derived.Laws.MakeOwn
import Derived.Laws.Rows
import Derived.StillTailTactics
import Derived.Below
namespace Go.Proofs.Ytolefcbhiajbbaa
open Go.RowKit
set_option maxRecDepth 100000

/-- Words, as a row of cells. -/
def wordsV (L : List Int) : Array Value := (L.map (Value.int .u32)).toArray
theorem wordsV_get (L : List Int) (i : Nat) (h : i < L.length) : (wordsV L)[i]? = some (.int .u32 (L.getD i 0)) := by
  simp [wordsV, h]

/-- What the closure that asks captured: the memory, the frame, the place. -/
structure AskSt (w : World) (bm bf bp : Nat) (p : Value) (f q : Int) : Prop where
  m : w.cell? ⟨bm, 0, none⟩ = some p
  f : w.cell? ⟨bf, 0, none⟩ = some (.int .i64 f)
  q : w.cell? ⟨bp, 0, none⟩ = some (.int .i64 q)

end Go.Proofs.Ytolefcbhiajbbaa
