/- Texts of mine, joined: ON. What each says and under which conditions stands at its head, below. -/
import Derived.Test.YtkcecfghfohjcaaDoorGN
import Derived.Test.YtkcecfghfohjcaaDoorGOS
import Derived.Deep.Slices
import Derived.Lib.SmallJoins
import Derived.ChangeMaps5
/- Arguments of layer 10's laws, opened: an entry, a slice of numbers, a slice of calls. No condition. -/
namespace Go.Proofs.YtkcecfghfohjcaaDoor
open Go.ChangeShapes Go.WideShapes Go.ChangeAt Go.RowKit Go.Deep Go.Joins
set_option maxRecDepth 100000

/-- A slice of numbers that came in. -/
def ArgInts10 (w : World) (v : Value) (L : List Int) : Prop := ∃ a c, v = .slice a L.length c ∧ (∀ x ∈ L, I64 x) ∧ (L = [] ∨ ∃ b o, a = some ⟨b, o, none⟩ ∧ b < w.heap.size ∧ ∀ i, i < L.length → w.cell? ⟨b, o + i, none⟩ = some (.int .i64 (L.getD i 0)))
/-- A call: what, of which space, of which page, an entry. -/
abbrev Op10 := Int × Int × Int × Ent
def ArgOps10 (w : World) (v : Value) (S : List Op10) : Prop := ∃ a c, v = .slice a S.length c ∧ (∀ x ∈ S, I64 x.1 ∧ I64 x.2.1 ∧ I64 x.2.2.1 ∧ I64 x.2.2.2.2.2.2) ∧ (S = [] ∨ ∃ b o, a = some ⟨b, o, none⟩ ∧ b < w.heap.size ∧ ∀ i, i < S.length →
  w.cell? ⟨b, o + i * 7, none⟩ = some (.int .i64 (S.getD i default).1) ∧ w.cell? ⟨b, o + i * 7 + 1, none⟩ = some (.int .i64 (S.getD i default).2.1) ∧ w.cell? ⟨b, o + i * 7 + 2, none⟩ = some (.int .i64 (S.getD i default).2.2.1) ∧
  w.cell? ⟨b, o + i * 7 + 3, none⟩ = some (.bool (S.getD i default).2.2.2.1) ∧ w.cell? ⟨b, o + i * 7 + 4, none⟩ = some (.bool (S.getD i default).2.2.2.2.1) ∧ w.cell? ⟨b, o + i * 7 + 5, none⟩ = some (.bool (S.getD i default).2.2.2.2.2.1) ∧ w.cell? ⟨b, o + i * 7 + 6, none⟩ = some (.int .i64 (S.getD i default).2.2.2.2.2.2))
theorem cellsOp10 : Tryd.prog.cellsOf 39 = 7 := by kernel_rfl
theorem cellsEnt : Tryd.prog.cellsOf 37 = 4 := by kernel_rfl
theorem cellsI10 : Tryd.prog.cellsOf 3 = 1 := by kernel_rfl
theorem cellsB10 : Tryd.prog.cellsOf 4 = 1 := by kernel_rfl
section
variable {H : Type} {enc : TypeId × Value → H} {W : World} {base : Nat} {sp : Nat → Bool} {held : Bool}
theorem entry_cells {fuel : Nat} {cs : List Value} {y : DataW H × List MemPlace} (h : DataW.trod enc Tryd.prog W base sp held fuel 37 cs = some y) : ∃ (p x c : Bool) (g : Int), cs = [.bool p, .bool x, .bool c, .int .i64 g] ∧ I64 g := by
  obtain ⟨xs, k, _, _, hlen, hxl, hg⟩ := DataW.trod_struct Tryd.underlying37 h
  rw [cellsEnt] at hlen
  match xs, hxl, cs, hlen with
  | [y0, y1, y2, y3], _, [v0, v1, v2, v3], _ =>
    have g0 := hg 0 _ rfl
    have g1 := hg 1 _ rfl
    have g2 := hg 2 _ rfl
    have g3 := hg 3 _ rfl
    simp [cellsB10, cellsI10] at g0 g1 g2 g3
    obtain ⟨p, e0, _⟩ := DataW.trod_bool Tryd.underlying4 g0
    obtain ⟨x, e1, _⟩ := DataW.trod_bool Tryd.underlying4 g1
    obtain ⟨c, e2, _⟩ := DataW.trod_bool Tryd.underlying4 g2
    obtain ⟨n, e3, _, wn⟩ := DataW.trod_int Tryd.underlying3 g3
    simp at e0 e1 e2 e3
    subst e0 e1 e2 e3
    exact ⟨p, x, c, n, rfl, bounds_i64 wn⟩
theorem entry_open {r : Reach} {b0 : Nat} {v : Value} {d : DataW H} {p : List MemPlace} (hv : Value.okWide Tryd.prog W r b0 37 v)
    (h : DataW.Trod enc Tryd.prog W base sp held 37 v d p) : ∃ (p x c : Bool) (g : Int), v = ent p x c g ∧ I64 g := by
  obtain ⟨cs, rfl, hsz⟩ := okWide_struct Tryd.underlying37 hv
  obtain ⟨fuel, hf⟩ := h
  obtain ⟨p, x, c, g, e, hg⟩ := entry_cells hf
  refine ⟨p, x, c, g, ?_, hg⟩
  have : cs = #[.bool p, .bool x, .bool c, .int .i64 g] := by
    apply Array.ext'
    simpa [Value.cells] using e
  rw [this]
end
section
variable {H : Type} {enc : TypeId × Value → H} {W : World} {base : Nat}
theorem ints10_open {v : Value} {d : DataW H} {p : List MemPlace} (hv : Value.okWide Tryd.prog W .any base 32 v)
    (h : DataW.Trod enc Tryd.prog W 0 (fun _ => true) true 32 v d p) (hlt : ∀ x ∈ p, x.block < W.heap.size) : ∃ L : List Int, ArgInts10 W v L := by
  obtain ⟨a0, len, cap, rfl⟩ := okWide_slice Tryd.underlying32 hv
  obtain ⟨fuel, hf⟩ := h
  rcases open_slice Tryd.underlying32 hf with ⟨hcs, _⟩ | ⟨a, len', cap', m, n, D, Pl, hcs, _, hl, _, hmm, hx, hi⟩
  · simp [Value.cells] at hcs
    obtain ⟨rfl, rfl, rfl⟩ := hcs
    exact ⟨[], none, 0, rfl, by simp, Or.inl rfl⟩
  · simp [Value.cells] at hcs
    obtain ⟨rfl, rfl, rfl⟩ := hcs
    have hm : m = cap := by simpa using hmm
    have each : ∀ i, i < len → ∃ q : Int, I64 q ∧ W.cell? (a.add i) = some (.int .i64 (q : Int)) := by
      intro i hil
      obtain ⟨cs', h1, h2⟩ := hi i (by omega)
      rw [cellsI10, Nat.mul_one] at h1
      obtain ⟨_, hlen, hcell⟩ := World.cells?_some h1
      match cs', hlen with
      | [v0], _ =>
        have e0 := hcell 0 (by omega)
        rw [add_add] at e0
        obtain ⟨n0, f0, _, w0⟩ := DataW.trod_int Tryd.underlying3 h2
        simp at f0
        subst f0
        exact ⟨n0, bounds_i64 w0, by simpa using e0⟩
    obtain ⟨q, hq⟩ := choose_lt each
    have hS : ((List.range len).map q).length = len := by simp
    refine ⟨(List.range len).map q, some a, cap, by rw [hS], fun x hx => ?_, ?_⟩
    · simp only [List.mem_map, List.mem_range] at hx
      obtain ⟨i, hi', rfl⟩ := hx
      exact (hq i hi').1
    by_cases h0 : len = 0
    · subst h0; exact Or.inl rfl
    · obtain ⟨b, off, spot⟩ := a
      have hspot : spot = none := by simpa [Addr.add] using World.cell?_spot (hq 0 (by omega)).2
      subst hspot
      simp only [Prod.mk.injEq] at hx
      refine Or.inr ⟨b, off, rfl, hlt (.cell b off) (by rw [hx.2]; exact List.mem_append_left _ (MemPlace.mem_row.2 ⟨0, by rw [cellsI10]; omega, by simp⟩)), fun i hil => ?_⟩
      rw [hS] at hil
      have e : ((List.range len).map q).getD i 0 = q i := by simp [List.getD_eq_getElem?_getD, hil]
      rw [e]
      have := (hq i hil).2
      simp only [add_plain] at this
      exact this
theorem ops10_open {v : Value} {d : DataW H} {p : List MemPlace} (hv : Value.okWide Tryd.prog W .any base 22 v)
    (h : DataW.Trod enc Tryd.prog W 0 (fun _ => true) true 22 v d p) (hlt : ∀ x ∈ p, x.block < W.heap.size) : ∃ S : List Op10, ArgOps10 W v S := by
  obtain ⟨a0, len, cap, rfl⟩ := okWide_slice Tryd.underlying22 hv
  obtain ⟨fuel, hf⟩ := h
  rcases open_slice Tryd.underlying22 hf with ⟨hcs, _⟩ | ⟨a, len', cap', m, n, D, Pl, hcs, _, hl, _, hmm, hx, hi⟩
  · simp [Value.cells] at hcs
    obtain ⟨rfl, rfl, rfl⟩ := hcs
    exact ⟨[], none, 0, rfl, by simp, Or.inl rfl⟩
  · simp [Value.cells] at hcs
    obtain ⟨rfl, rfl, rfl⟩ := hcs
    have hm : m = cap := by simpa using hmm
    have each : ∀ i, i < len → ∃ q : Op10, (I64 q.1 ∧ I64 q.2.1 ∧ I64 q.2.2.1 ∧ I64 q.2.2.2.2.2.2) ∧ W.cell? (a.add (i * 7)) = some (.int .i64 q.1) ∧ W.cell? (a.add (i * 7 + 1)) = some (.int .i64 q.2.1) ∧ W.cell? (a.add (i * 7 + 2)) = some (.int .i64 q.2.2.1) ∧ W.cell? (a.add (i * 7 + 3)) = some (.bool q.2.2.2.1) ∧ W.cell? (a.add (i * 7 + 4)) = some (.bool q.2.2.2.2.1) ∧ W.cell? (a.add (i * 7 + 5)) = some (.bool q.2.2.2.2.2.1) ∧ W.cell? (a.add (i * 7 + 6)) = some (.int .i64 q.2.2.2.2.2.2) := by
      intro i hil
      obtain ⟨cs', h1, h2⟩ := hi i (by omega)
      rw [cellsOp10] at h1
      obtain ⟨_, hlen, hcell⟩ := World.cells?_some h1
      obtain ⟨xs, k, _, _, _, hxl, hg⟩ := DataW.trod_struct Tryd.underlying39 h2
      match xs, hxl, cs', hlen with
      | [y0, y1, y2, y3], _, [v0, v1, v2, v3, v4, v5, v6], _ =>
        have g0 := hg 0 _ rfl
        have g1 := hg 1 _ rfl
        have g2 := hg 2 _ rfl
        have g3 := hg 3 _ rfl
        simp [cellsI10, cellsEnt] at g0 g1 g2 g3
        have e0 := hcell 0 (by omega)
        have e1 := hcell 1 (by omega)
        have e2 := hcell 2 (by omega)
        have e3 := hcell 3 (by omega)
        have e4 := hcell 4 (by omega)
        have e5 := hcell 5 (by omega)
        have e6 := hcell 6 (by omega)
        rw [add_add] at e0 e1 e2 e3 e4 e5 e6
        obtain ⟨n0, f0, _, w0⟩ := DataW.trod_int Tryd.underlying3 g0
        obtain ⟨n1, f1, _, w1⟩ := DataW.trod_int Tryd.underlying3 g1
        obtain ⟨n2, f2, _, w2⟩ := DataW.trod_int Tryd.underlying3 g2
        obtain ⟨p, x, c, g, f3, w3⟩ := entry_cells g3
        simp at f0 f1 f2 f3
        obtain ⟨f3, f4, f5, f6⟩ := f3
        subst f0 f1 f2 f3 f4 f5 f6
        exact ⟨(n0, n1, n2, (p, x, c, g)), ⟨bounds_i64 w0, bounds_i64 w1, bounds_i64 w2, w3⟩, by simpa using e0, by simpa using e1, by simpa using e2, by simpa using e3, by simpa using e4, by simpa using e5, by simpa using e6⟩
    obtain ⟨q, hq⟩ := choose_lt each
    have hS : ((List.range len).map q).length = len := by simp
    refine ⟨(List.range len).map q, some a, cap, by rw [hS], fun x hx => ?_, ?_⟩
    · simp only [List.mem_map, List.mem_range] at hx
      obtain ⟨i, hi', rfl⟩ := hx
      exact (hq i hi').1
    by_cases h0 : len = 0
    · subst h0; exact Or.inl rfl
    · obtain ⟨b, off, spot⟩ := a
      have hspot : spot = none := by simpa [Addr.add] using World.cell?_spot (hq 0 (by omega)).2.1
      subst hspot
      simp only [Prod.mk.injEq] at hx
      refine Or.inr ⟨b, off, rfl, hlt (.cell b off) (by rw [hx.2]; exact List.mem_append_left _ (MemPlace.mem_row.2 ⟨0, by rw [cellsOp10]; omega, by simp⟩)), fun i hil => ?_⟩
      rw [hS] at hil
      have e : ((List.range len).map q).getD i default = q i := by simp [List.getD_eq_getElem?_getD, hil]
      rw [e]
      have := (hq i hil).2
      simp only [add_plain] at this
      simpa [Nat.add_assoc] using this
end
end Go.Proofs.YtkcecfghfohjcaaDoor
