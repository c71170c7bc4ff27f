/- The contracts of what asks for a place of a frame, package mem. Conditions: the memory lies as New laid it; what is done with the frame has a contract. -/
import Derived.Test.YtolefcbhiajbbaaM1
namespace Go.Proofs.Ytolefcbhiajbbaa
open Go.RowKit
set_option maxRecDepth 100000

/-- A function with a body is entered. -/
theorem enters {k : Nat} {fn : Func} (h : Try.prog.funcs[k]? = some fn) (hn : (fn.name == "runtime.NumGoroutine") = false) (hb : fn.body.isNone = false) (args : Array Value) (W : World) : (callFunc k args).run Try.prog W = .ok (.enter k args) W := by
  have h1 : ¬ fn.name = "runtime.NumGoroutine" := by simpa using hn
  have h2 : ¬ fn.body = none := by intro e; rw [e] at hb; exact absurd hb (by decide)
  simp [callFunc, Sem.run_bind, h, h1, h2]

end Go.Proofs.Ytolefcbhiajbbaa
