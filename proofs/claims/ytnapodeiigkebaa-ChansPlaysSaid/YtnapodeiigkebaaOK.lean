/- Arguments of layer 20's laws, opened: a slice of messages, a slice of calls. No condition. -/
import Derived.Test.YtnapodeiigkebaaOR
namespace Go.Proofs.Ytnapodeiigkebaa
open Go.ChangeShapes Go.WideShapes Go.ChangeAt Go.RowKit Go.Deep Go.Joins
set_option maxRecDepth 100000

/-- A slice of messages, as an argument. -/
def ArgLs20 (w : World) (v : Value) (S : List (List Int)) : Prop := ∃ a c, v = .slice a S.length c ∧ (S = [] ∨ ∃ b o, a = some ⟨b, o, none⟩ ∧ b < w.heap.size ∧ ∀ i, i < S.length → ∃ u, w.cell? ⟨b, o + i, none⟩ = some u ∧ ArgMs w u (S.getD i []))
/-- A slice of calls, as an argument: which, whose, on which channel, of which message. -/
abbrev Op20 := Int × Int × Int × List Int
def ArgOps20 (w : World) (v : Value) (S : List Op20) : Prop := ∃ a c, v = .slice a S.length c ∧ (∀ x ∈ S, I64 x.1 ∧ I64 x.2.1 ∧ I64 x.2.2.1) ∧ (S = [] ∨ ∃ b o, a = some ⟨b, o, none⟩ ∧ b < w.heap.size ∧ ∀ i, i < S.length → ∃ u, w.cell? ⟨b, o + i * 4, none⟩ = some (.int .i64 (S.getD i default).1) ∧ w.cell? ⟨b, o + i * 4 + 1, none⟩ = some (.int .i64 (S.getD i default).2.1) ∧ w.cell? ⟨b, o + i * 4 + 2, none⟩ = some (.int .i64 (S.getD i default).2.2.1) ∧ w.cell? ⟨b, o + i * 4 + 3, none⟩ = some u ∧ ArgMs w u (S.getD i default).2.2.2)
theorem cellsOp20 : Try.prog.cellsOf 45 = 4 := by kernel_rfl
section
variable {H : Type} {enc : TypeId × Value → H} {W : World} {base : Nat}
theorem ls20_open {v : Value} {d : DataW H} {p : List MemPlace} (hv : Value.okWide Try.prog W .any base 64 v)
    (h : DataW.Trod enc Try.prog W 0 (fun _ => true) true 64 v d p) (hlt : ∀ x ∈ p, x.block < W.heap.size) : ∃ S : List (List Int), ArgLs20 W v S := by
  obtain ⟨a0, len, cap, rfl⟩ := okWide_slice Try.underlying64 hv
  obtain ⟨fuel, hf⟩ := h
  rcases open_slice Try.underlying64 hf with ⟨hcs, _⟩ | ⟨a, len', cap', m, n, D, Pl, hcs, _, hl, _, hmm, hx, hi⟩
  · simp [Value.cells] at hcs
    obtain ⟨rfl, rfl, rfl⟩ := hcs
    exact ⟨[], none, 0, rfl, Or.inl rfl⟩
  · simp [Value.cells] at hcs
    obtain ⟨rfl, rfl, rfl⟩ := hcs
    have hm : m = cap := by simpa using hmm
    simp only [Prod.mk.injEq] at hx
    have each : ∀ i, i < len → ∃ q : List Int, ∃ u, W.cell? (a.add i) = some u ∧ ArgMs W u q := by
      intro i hil
      obtain ⟨cs', h1, h2⟩ := hi i (by omega)
      rw [cellsMsg19, Nat.mul_one] at h1
      obtain ⟨_, hlen, hcell⟩ := World.cells?_some h1
      match cs', hlen with
      | [v0], _ =>
        have e0 := hcell 0 (by omega)
        rw [add_add] at e0
        obtain ⟨u, L, f1, hL⟩ := msg_cells19 h2 (fun y hyy => hlt y (by rw [hx.2]; exact List.mem_append_right _ (List.mem_flatMap.2 ⟨i, List.mem_range.2 (by omega), hyy⟩)))
        simp at f1
        subst f1
        exact ⟨L, v0, by simpa using e0, hL⟩
    obtain ⟨q, hq⟩ := choose_lt each
    have hS : ((List.range len).map q).length = len := by simp
    refine ⟨(List.range len).map q, some a, cap, by rw [hS], ?_⟩
    by_cases h0 : len = 0
    · subst h0; exact Or.inl rfl
    · obtain ⟨b, off, spot⟩ := a
      have hspot : spot = none := by
        obtain ⟨_, h1, _⟩ := hq 0 (by omega)
        simpa [Addr.add] using World.cell?_spot h1
      subst hspot
      refine Or.inr ⟨b, off, rfl, hlt (.cell b off) (by rw [hx.2]; exact List.mem_append_left _ (MemPlace.mem_row.2 ⟨0, by rw [cellsMsg19]; omega, by simp⟩)), fun i hil => ?_⟩
      rw [hS] at hil
      have e : ((List.range len).map q).getD i [] = q i := by simp [List.getD_eq_getElem?_getD, hil]
      rw [e]
      obtain ⟨u, k0, k2⟩ := hq i hil
      simp only [add_plain] at k0
      exact ⟨u, k0, k2⟩
theorem ops20_open {v : Value} {d : DataW H} {p : List MemPlace} (hv : Value.okWide Try.prog W .any base 27 v)
    (h : DataW.Trod enc Try.prog W 0 (fun _ => true) true 27 v d p) (hlt : ∀ x ∈ p, x.block < W.heap.size) : ∃ S : List Op20, ArgOps20 W v S := by
  obtain ⟨a0, len, cap, rfl⟩ := okWide_slice Try.underlying27 hv
  obtain ⟨fuel, hf⟩ := h
  rcases open_slice Try.underlying27 hf with ⟨hcs, _⟩ | ⟨a, len', cap', m, n, D, Pl, hcs, _, hl, _, hmm, hx, hi⟩
  · simp [Value.cells] at hcs
    obtain ⟨rfl, rfl, rfl⟩ := hcs
    exact ⟨[], none, 0, rfl, by simp, Or.inl rfl⟩
  · simp [Value.cells] at hcs
    obtain ⟨rfl, rfl, rfl⟩ := hcs
    have hm : m = cap := by simpa using hmm
    simp only [Prod.mk.injEq] at hx
    have each : ∀ i, i < len → ∃ q : Op20, (I64 q.1 ∧ I64 q.2.1 ∧ I64 q.2.2.1) ∧ ∃ u, W.cell? (a.add (i * 4)) = some (.int .i64 q.1) ∧ W.cell? (a.add (i * 4 + 1)) = some (.int .i64 q.2.1) ∧ W.cell? (a.add (i * 4 + 2)) = some (.int .i64 q.2.2.1) ∧ W.cell? (a.add (i * 4 + 3)) = some u ∧ ArgMs W u q.2.2.2 := by
      intro i hil
      obtain ⟨cs', h1, h2⟩ := hi i (by omega)
      rw [cellsOp20] at h1
      obtain ⟨_, hlen, hcell⟩ := World.cells?_some h1
      obtain ⟨xs, k, _, hy, _, hxl, hg⟩ := DataW.trod_struct Try.underlying45 h2
      match xs, hxl, cs', hlen with
      | [y0, y1, y2, y3], _, [v0, v1, v2, v3], _ =>
        have g0 := hg 0 _ rfl
        have g1 := hg 1 _ rfl
        have g2 := hg 2 _ rfl
        have g3 := hg 3 _ rfl
        simp [cellsInt19, cellsMsg19] at g0 g1 g2 g3
        have e0 := hcell 0 (by omega)
        have e1 := hcell 1 (by omega)
        have e2 := hcell 2 (by omega)
        have e3 := hcell 3 (by omega)
        rw [add_add] at e0 e1 e2 e3
        obtain ⟨n0, f0, _, w0⟩ := DataW.trod_int Try.underlying3 g0
        obtain ⟨n1, f1, _, w1⟩ := DataW.trod_int Try.underlying3 g1
        obtain ⟨n2, f2, _, w2⟩ := DataW.trod_int Try.underlying3 g2
        simp only [Prod.mk.injEq] at hy
        obtain ⟨u, L, f3, hL⟩ := msg_cells19 g3 (fun y hyy => hlt y (by rw [hx.2]; exact List.mem_append_right _ (List.mem_flatMap.2 ⟨i, List.mem_range.2 (by omega), by rw [hy.2]; simp [hyy]⟩)))
        simp at f0 f1 f2 f3
        subst f0 f1 f2 f3
        exact ⟨(n0, n1, n2, L), ⟨bounds_i64 w0, bounds_i64 w1, bounds_i64 w2⟩, v3, by simpa using e0, by simpa using e1, by simpa using e2, by simpa using e3, hL⟩
    obtain ⟨q, hq⟩ := choose_lt each
    have hS : ((List.range len).map q).length = len := by simp
    refine ⟨(List.range len).map q, some a, cap, by rw [hS], fun x hx => ?_, ?_⟩
    · simp only [List.mem_map, List.mem_range] at hx
      obtain ⟨i, hi', rfl⟩ := hx
      exact (hq i hi').1
    by_cases h0 : len = 0
    · subst h0; exact Or.inl rfl
    · obtain ⟨b, off, spot⟩ := a
      have hspot : spot = none := by
        obtain ⟨_, _, h1, _⟩ := hq 0 (by omega)
        simpa [Addr.add] using World.cell?_spot h1
      subst hspot
      refine Or.inr ⟨b, off, rfl, hlt (.cell b off) (by rw [hx.2]; exact List.mem_append_left _ (MemPlace.mem_row.2 ⟨0, by rw [cellsOp20]; omega, by simp⟩)), fun i hil => ?_⟩
      rw [hS] at hil
      have e : ((List.range len).map q).getD i default = q i := by simp [List.getD_eq_getElem?_getD, hil]
      rw [e]
      obtain ⟨_, u, k0, k1, k2, k3, k4⟩ := hq i hil
      simp only [add_plain] at k0 k1 k2 k3
      exact ⟨u, k0, by simpa [Nat.add_assoc] using k1, by simpa [Nat.add_assoc] using k2, by simpa [Nat.add_assoc] using k3, k4⟩
end
end Go.Proofs.Ytnapodeiigkebaa
