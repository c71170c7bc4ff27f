/- Arguments of layer 16's laws, opened: an operation. No condition. -/
import Derived.Test.YtfpcoomkbmfchaaGreatDoorS50
import Derived.Test.YtfpcoomkbmfchaaGreatDoorGLF
import Derived.Deep.Slices
import Derived.Lib.SmallJoins
namespace Go.Proofs.YtfpcoomkbmfchaaGreatDoor
open Go.ChangeShapes Go.WideShapes Go.ChangeAt Go.RowKit Go.Deep Go.Joins
set_option maxRecDepth 100000

theorem cellsOp16 : Tryz.prog.cellsOf 27 = 9 := by kernel_rfl
theorem cellsAr16 : Tryz.prog.cellsOf 23 = 3 := by kernel_rfl
theorem cellsW16 : Tryz.prog.cellsOf 25 = 1 := by kernel_rfl
theorem cellsI16 : Tryz.prog.cellsOf 3 = 1 := by kernel_rfl
theorem cellsB16 : Tryz.prog.cellsOf 4 = 1 := by kernel_rfl
/-- The numbers of an operation, as wide as their types. -/
structure WideOp (k i t n x y va u : Int) : Prop where
  wk : I64 k
  wi : I64 i
  wt : I64 t
  wn : I64 n
  wx : I64 x
  wy : I64 y
  wv : 0 ≤ va ∧ va ≤ 4294967295
  wu : 0 ≤ u ∧ u ≤ 4294967295
section
variable {H : Type} {enc : TypeId × Value → H} {W : World} {base : Nat} {sp : Nat → Bool} {held : Bool}
theorem op16_cells {fuel : Nat} {cs : List Value} {x : DataW H × List MemPlace} (h : DataW.trod enc Tryz.prog W base sp held fuel 27 cs = some x) : ∃ (k i t n x y : Int) (d : Bool) (va u : Int), cs = [.int .i64 k, .int .i64 i, .int .i64 t, .int .i64 n, .int .i64 x, .int .i64 y, .bool d, .int .u32 va, .int .u32 u] ∧ WideOp k i t n x y va u := by
  obtain ⟨xs, k, _, _, hlen, hxl, hg⟩ := DataW.trod_struct Tryz.underlying27 h
  rw [cellsOp16] at hlen
  match xs, hxl, cs, hlen with
  | [y0, y1, y2, y3, y4, y5, y6], _, [v0, v1, v2, v3, v4, v5, v6, v7, v8], _ =>
    have g0 := hg 0 _ rfl
    have g1 := hg 1 _ rfl
    have g2 := hg 2 _ rfl
    have g3 := hg 3 _ rfl
    have g4 := hg 4 _ rfl
    have g5 := hg 5 _ rfl
    have g6 := hg 6 _ rfl
    simp [cellsAr16, cellsW16, cellsI16] at g0 g1 g2 g3 g4 g5 g6
    obtain ⟨n0, f0, _, w0⟩ := DataW.trod_int Tryz.underlying3 g0
    obtain ⟨n1, f1, _, w1⟩ := DataW.trod_int Tryz.underlying3 g1
    obtain ⟨n2, f2, _, w2⟩ := DataW.trod_int Tryz.underlying3 g2
    obtain ⟨n3, f3, _, w3⟩ := DataW.trod_int Tryz.underlying3 g3
    obtain ⟨zs, m, _, _, _, hzl, hi⟩ := DataW.trod_struct Tryz.underlying23 g4
    match zs, hzl with
    | [z0, z1, z2], _ =>
      have i0 := hi 0 _ rfl
      have i1 := hi 1 _ rfl
      have i2 := hi 2 _ rfl
      simp [cellsI16, cellsB16] at i0 i1 i2
      obtain ⟨n4, f4, _, w4⟩ := DataW.trod_int Tryz.underlying3 i0
      obtain ⟨n5, f5, _, w5⟩ := DataW.trod_int Tryz.underlying3 i1
      obtain ⟨b6, f6, _⟩ := DataW.trod_bool Tryz.underlying4 i2
      obtain ⟨n7, f7, _, w7⟩ := DataW.trod_int Tryz.underlying25 g5
      obtain ⟨n8, f8, _, w8⟩ := DataW.trod_int Tryz.underlying25 g6
      simp at f0 f1 f2 f3 f4 f5 f6 f7 f8
      subst f0 f1 f2 f3 f4 f5 f6 f7 f8
      exact ⟨n0, n1, n2, n3, n4, n5, b6, n7, n8, rfl, ⟨bounds_i64 w0, bounds_i64 w1, bounds_i64 w2, bounds_i64 w3, bounds_i64 w4, bounds_i64 w5, bounds_u32 w7, bounds_u32 w8⟩⟩
end
section
variable {H : Type} {enc : TypeId × Value → H} {W : World} {base : Nat}
theorem op16_open {v : Value} {d : DataW H} {p : List MemPlace} (hv : Value.okWide Tryz.prog W .any base 27 v)
    (h : DataW.Trod enc Tryz.prog W 0 (fun _ => true) true 27 v d p) : ∃ (k i t n x y : Int) (b : Bool) (va u : Int), v = .agg (opA k i t n x y b va u) ∧ WideOp k i t n x y va u := by
  obtain ⟨cs, rfl, hsz⟩ := okWide_struct Tryz.underlying27 hv
  obtain ⟨fuel, hf⟩ := h
  obtain ⟨k, i, t, n, x, y, b, va, u, he, hw⟩ := op16_cells hf
  refine ⟨k, i, t, n, x, y, b, va, u, ?_, hw⟩
  have : cs = opA k i t n x y b va u := by
    apply Array.ext'
    simpa [Value.cells] using he
  rw [this]
theorem spaceNone_walkO (k i t n x y : Int) (d : Bool) (va u : Int) (W : World) (_ : WideOp k i t n x y va u) (hL : LaidN W) : Calls Tryz.prog 3 #[.agg (opA k i t n x y d va u)] W fun e w' => e = .returned (.bool true) ∧ Below W.heap.size W w' := spaceNone_walk k i t n x y d va u W hL
end
end Go.Proofs.YtfpcoomkbmfchaaGreatDoor
