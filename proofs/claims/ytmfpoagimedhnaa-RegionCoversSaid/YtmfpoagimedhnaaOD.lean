/- Arguments of layer 14's laws, opened: a slice of areas, an area. No condition. -/
import Derived.Test.YtmfpoagimedhnaaD19
import Derived.Test.YtmfpoagimedhnaaOS
import Derived.Deep.Slices
import Derived.Lib.SmallJoins
import Derived.ChangeMaps5
namespace Go.Proofs.Ytmfpoagimedhnaa
open Go.ChangeShapes Go.WideShapes Go.ChangeAt Go.RowKit Go.Deep Go.Joins
set_option maxRecDepth 100000

theorem cellsAr14 : Try.prog.cellsOf 32 = 3 := by kernel_rfl
section
variable {H : Type} {enc : TypeId × Value → H} {W : World} {base : Nat}
theorem areas_open {v : Value} {d : DataW H} {p : List MemPlace} (hv : Value.okWide Try.prog W .any base 22 v)
    (h : DataW.Trod enc Try.prog W 0 (fun _ => true) true 22 v d p) (hlt : ∀ x ∈ p, x.block < W.heap.size) : ∃ S : List Ar, ArgAr W v S := by
  obtain ⟨a0, len, cap, rfl⟩ := okWide_slice Try.underlying22 hv
  obtain ⟨fuel, hf⟩ := h
  rcases open_slice Try.underlying22 hf with ⟨hcs, _⟩ | ⟨a, len', cap', m, n, D, Pl, hcs, _, hl, _, hmm, hx, hi⟩
  · simp [Value.cells] at hcs
    obtain ⟨rfl, rfl, rfl⟩ := hcs
    exact ⟨[], none, 0, rfl, fun _ => rfl, by simp, Or.inl rfl⟩
  · simp [Value.cells] at hcs
    obtain ⟨rfl, rfl, rfl⟩ := hcs
    have hm : m = cap := by simpa using hmm
    have each : ∀ i, i < len → ∃ q : Ar, WideD q ∧ W.cell? (a.add (i * 3)) = some (.int .i64 q.1) ∧ W.cell? (a.add (i * 3 + 1)) = some (.int .i64 q.2.1) ∧ W.cell? (a.add (i * 3 + 2)) = some (.bool q.2.2) := by
      intro i hil
      obtain ⟨cs', h1, h2⟩ := hi i (by omega)
      rw [cellsAr14] at h1
      obtain ⟨_, hlen, hcell⟩ := World.cells?_some h1
      obtain ⟨xs, k, _, _, _, hxl, hg⟩ := DataW.trod_struct Try.underlying32 h2
      match xs, hxl, cs', hlen with
      | [y0, y1, y2], _, [v0, v1, v2], _ =>
        have g0 := hg 0 _ rfl
        have g1 := hg 1 _ rfl
        have g2 := hg 2 _ rfl
        have cb : Try.prog.cellsOf 4 = 1 := by kernel_rfl
        have ci : Try.prog.cellsOf 3 = 1 := by kernel_rfl
        simp [ci, cb] at g0 g1 g2
        have e0 := hcell 0 (by omega)
        have e1 := hcell 1 (by omega)
        have e2 := hcell 2 (by omega)
        rw [add_add] at e0 e1 e2
        obtain ⟨n0, f0, _, w0⟩ := DataW.trod_int Try.underlying3 g0
        obtain ⟨n1, f1, _, w1⟩ := DataW.trod_int Try.underlying3 g1
        obtain ⟨b2, f2, _⟩ := DataW.trod_bool Try.underlying4 g2
        simp at f0 f1 f2
        subst f0 f1 f2
        exact ⟨(n0, n1, b2), ⟨bounds_i64 w0, bounds_i64 w1⟩, by simpa using e0, by simpa using e1, by simpa using e2⟩
    obtain ⟨q, hq⟩ := choose_lt each
    have hS : ((List.range len).map q).length = len := by simp
    refine ⟨(List.range len).map q, some a, cap, by rw [hS], (fun e => by cases e), fun x hx => ?_, ?_⟩
    · simp only [List.mem_map, List.mem_range] at hx
      obtain ⟨i, hi', rfl⟩ := hx
      exact (hq i hi').1
    by_cases h0 : len = 0
    · subst h0; exact Or.inl rfl
    · obtain ⟨b, off, spot⟩ := a
      have hspot : spot = none := by simpa [Addr.add] using World.cell?_spot (hq 0 (by omega)).2.1
      subst hspot
      simp only [Prod.mk.injEq] at hx
      refine Or.inr ⟨b, off, rfl, hlt (.cell b off) (by rw [hx.2]; exact List.mem_append_left _ (MemPlace.mem_row.2 ⟨0, by rw [cellsAr14]; omega, by simp⟩)), fun i hil => ?_⟩
      rw [hS] at hil
      have e : ((List.range len).map q).getD i default = q i := by simp [List.getD_eq_getElem?_getD, hil]
      rw [e]
      have := (hq i hil).2
      simp only [add_plain] at this
      unfold CellsD
      simpa [Nat.add_assoc] using this
theorem area_open {v : Value} {d : DataW H} {p : List MemPlace} (hv : Value.okWide Try.prog W .any base 32 v)
    (h : DataW.Trod enc Try.prog W 0 (fun _ => true) true 32 v d p) : ∃ (x y : Int) (b : Bool), v = .agg #[.int .i64 x, .int .i64 y, .bool b] ∧ WideD (x, y, b) := by
  obtain ⟨cs, rfl, hsz⟩ := okWide_struct Try.underlying32 hv
  obtain ⟨fuel, hf⟩ := h
  obtain ⟨xs, k, _, _, hlen, hxl, hg⟩ := DataW.trod_struct Try.underlying32 hf
  rw [cellsAr14] at hlen
  have e : ∃ (x y : Int) (b : Bool), (Value.agg cs).cells.toList = [.int .i64 x, .int .i64 y, .bool b] ∧ WideD (x, y, b) := by
    revert hg hlen
    generalize (Value.agg cs).cells.toList = zs
    intro hlen hg
    match xs, hxl, zs, hlen with
    | [y0, y1, y2], _, [v0, v1, v2], _ =>
      have g0 := hg 0 _ rfl
      have g1 := hg 1 _ rfl
      have g2 := hg 2 _ rfl
      have cb : Try.prog.cellsOf 4 = 1 := by kernel_rfl
      have ci : Try.prog.cellsOf 3 = 1 := by kernel_rfl
      simp [ci, cb] at g0 g1 g2
      obtain ⟨n0, f0, _, w0⟩ := DataW.trod_int Try.underlying3 g0
      obtain ⟨n1, f1, _, w1⟩ := DataW.trod_int Try.underlying3 g1
      obtain ⟨b2, f2, _⟩ := DataW.trod_bool Try.underlying4 g2
      simp at f0 f1 f2
      subst f0 f1 f2
      exact ⟨n0, n1, b2, rfl, bounds_i64 w0, bounds_i64 w1⟩
  obtain ⟨x, y, b, e, hw⟩ := e
  refine ⟨x, y, b, ?_, hw⟩
  have : cs = #[.int .i64 x, .int .i64 y, .bool b] := by
    apply Array.ext'
    simpa [Value.cells] using e
  rw [this]
end
end Go.Proofs.Ytmfpoagimedhnaa
