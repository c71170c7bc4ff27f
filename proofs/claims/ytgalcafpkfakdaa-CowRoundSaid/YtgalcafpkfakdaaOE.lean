/- An entry among a law's arguments, opened. No condition. (Split off XON in round 15: plain moves.) -/
import Derived.Test.YtgalcafpkfakdaaW3
import Derived.Test.YtgalcafpkfakdaaLF
import Derived.Deep.Slices
import Derived.Lib.SmallJoins
import Derived.ChangeMaps5
namespace Go.Proofs.Ytgalcafpkfakdaa
open Go.ChangeShapes Go.WideShapes Go.ChangeAt Go.RowKit Go.Deep Go.Joins
set_option maxRecDepth 100000

theorem cellsEnt : Try.prog.cellsOf 23 = 4 := by kernel_rfl
theorem cellsI10 : Try.prog.cellsOf 3 = 1 := by kernel_rfl
theorem cellsB10 : Try.prog.cellsOf 4 = 1 := by kernel_rfl
section
variable {H : Type} {enc : TypeId × Value → H} {W : World} {base : Nat} {sp : Nat → Bool} {held : Bool}
theorem entry_cells {fuel : Nat} {cs : List Value} {y : DataW H × List MemPlace} (h : DataW.trod enc Try.prog W base sp held fuel 23 cs = some y) : ∃ (p x c : Bool) (g : Int), cs = [.bool p, .bool x, .bool c, .int .i64 g] ∧ (-9223372036854775808 ≤ g ∧ g ≤ 9223372036854775807) := by
  obtain ⟨xs, k, _, _, hlen, hxl, hg⟩ := DataW.trod_struct Try.underlying23 h
  rw [cellsEnt] at hlen
  match xs, hxl, cs, hlen with
  | [y0, y1, y2, y3], _, [v0, v1, v2, v3], _ =>
    have g0 := hg 0 _ rfl
    have g1 := hg 1 _ rfl
    have g2 := hg 2 _ rfl
    have g3 := hg 3 _ rfl
    simp [cellsB10, cellsI10] at g0 g1 g2 g3
    obtain ⟨p, e0, _⟩ := DataW.trod_bool Try.underlying4 g0
    obtain ⟨x, e1, _⟩ := DataW.trod_bool Try.underlying4 g1
    obtain ⟨c, e2, _⟩ := DataW.trod_bool Try.underlying4 g2
    obtain ⟨n, e3, _, wn⟩ := DataW.trod_int Try.underlying3 g3
    simp at e0 e1 e2 e3
    subst e0 e1 e2 e3
    exact ⟨p, x, c, n, rfl, bounds_i64 wn⟩
theorem entry_open {r : Reach} {b0 : Nat} {v : Value} {d : DataW H} {p : List MemPlace} (hv : Value.okWide Try.prog W r b0 23 v)
    (h : DataW.Trod enc Try.prog W base sp held 23 v d p) : ∃ (p x c : Bool) (g : Int), v = ent p x c g ∧ (-9223372036854775808 ≤ g ∧ g ≤ 9223372036854775807) := by
  obtain ⟨cs, rfl, hsz⟩ := okWide_struct Try.underlying23 hv
  obtain ⟨fuel, hf⟩ := h
  obtain ⟨p, x, c, g, e, hg⟩ := entry_cells hf
  refine ⟨p, x, c, g, ?_, hg⟩
  have : cs = #[.bool p, .bool x, .bool c, .int .i64 g] := by
    apply Array.ext'
    simpa [Value.cells] using e
  rw [this]
end
end Go.Proofs.Ytgalcafpkfakdaa
