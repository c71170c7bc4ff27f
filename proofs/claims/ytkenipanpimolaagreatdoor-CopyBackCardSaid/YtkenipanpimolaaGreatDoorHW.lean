/- Texts of mine, joined: S48 S49. What each says and under which conditions stands at its head, below. -/
import Derived.Test.YtkenipanpimolaaGreatDoorHR
import Derived.Test.YtkenipanpimolaaGreatDoorHT
/- What the calls of package space answer where there are no spaces. No condition. -/
namespace Go.Proofs.YtkenipanpimolaaGreatDoor
open Go.RowKit Go.Maps
set_option maxRecDepth 100000

theorem reachNo (p : Option Addr) (i va n : Int) (b : Bool) (w : World) (h : NoSpc w p) : Calls Tryz.prog 26 #[.pointer p, .int .i64 i, .int .u32 va, .int .i64 n, .bool b] w fun e w' => e = .returned (.int .i64 1) ∧ Below w.heap.size w w' := by
  have HF := Lib.hid (askS_one p false i w h.there (er := 1) rfl)
  clear h
  go_enter Tryz.func26, Tryz.ntmps26
  go_wp2_with fail
  refine HF.out.mono ?_
  rintro e w1 ⟨rfl, hb⟩
  have B := Lib.hid hb
  clear hb
  go_wp2
  go_ret
  exact ⟨rfl, B.out⟩
end Go.Proofs.YtkenipanpimolaaGreatDoor

/- What package space's New answers where there is no memory, pool, budget, partition, or too few frames. Condition: the listed tables read as laid. -/
namespace Go.Proofs.YtkenipanpimolaaGreatDoor
open Go.RowKit Go.Maps
set_option maxRecDepth 100000

end Go.Proofs.YtkenipanpimolaaGreatDoor
