/- Arguments of layer 16's laws, opened: an area. No condition. -/
import Derived.Test.YtfpcoomkbmfchaaGreatDoorGA0
import Derived.Test.YtfpcoomkbmfchaaGreatDoorGLF
import Derived.Deep.Slices
import Derived.Lib.SmallJoins
namespace Go.Proofs.YtfpcoomkbmfchaaGreatDoor
open Go.ChangeShapes Go.WideShapes Go.ChangeAt Go.RowKit Go.Deep Go.Joins
set_option maxRecDepth 100000

theorem cellsArJ : Tryz.prog.cellsOf 23 = 3 := by kernel_rfl
section
variable {H : Type} {enc : TypeId × Value → H} {W : World} {base : Nat}
theorem ar16_open {v : Value} {d : DataW H} {p : List MemPlace} (hv : Value.okWide Tryz.prog W .any base 23 v)
    (h : DataW.Trod enc Tryz.prog W 0 (fun _ => true) true 23 v d p) : ∃ (x y : Int) (b : Bool), v = .agg #[.int .i64 x, .int .i64 y, .bool b] ∧ I64 x ∧ I64 y := by
  obtain ⟨cs, rfl, hsz⟩ := okWide_struct Tryz.underlying23 hv
  obtain ⟨fuel, hf⟩ := h
  obtain ⟨xs, k, _, _, hlen, hxl, hg⟩ := DataW.trod_struct Tryz.underlying23 hf
  rw [cellsArJ] at hlen
  have e : ∃ (x y : Int) (b : Bool), (Value.agg cs).cells.toList = [.int .i64 x, .int .i64 y, .bool b] ∧ I64 x ∧ I64 y := by
    revert hg hlen
    generalize (Value.agg cs).cells.toList = zs
    intro hlen hg
    match xs, hxl, zs, hlen with
    | [y0, y1, y2], _, [v0, v1, v2], _ =>
      have g0 := hg 0 _ rfl
      have g1 := hg 1 _ rfl
      have g2 := hg 2 _ rfl
      have cb : Tryz.prog.cellsOf 4 = 1 := by kernel_rfl
      have ci : Tryz.prog.cellsOf 3 = 1 := by kernel_rfl
      simp [ci, cb] at g0 g1 g2
      obtain ⟨n0, f0, _, w0⟩ := DataW.trod_int Tryz.underlying3 g0
      obtain ⟨n1, f1, _, w1⟩ := DataW.trod_int Tryz.underlying3 g1
      obtain ⟨b2, f2, _⟩ := DataW.trod_bool Tryz.underlying4 g2
      simp at f0 f1 f2
      subst f0 f1 f2
      exact ⟨n0, n1, b2, rfl, bounds_i64 w0, bounds_i64 w1⟩
  obtain ⟨x, y, b, e, hw⟩ := e
  refine ⟨x, y, b, ?_, hw⟩
  have : cs = #[.int .i64 x, .int .i64 y, .bool b] := by
    apply Array.ext'
    simpa [Value.cells] using e
  rw [this]
end
end Go.Proofs.YtfpcoomkbmfchaaGreatDoor
