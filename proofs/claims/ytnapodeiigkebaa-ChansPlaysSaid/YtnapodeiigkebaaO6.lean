/- Arguments of layer 6's laws, opened: a configuration by value. No condition. Written by gen/gen_o6.py. -/
import Derived.Test.YtnapodeiigkebaaIW
import Derived.Test.YtnapodeiigkebaaGOS
namespace Go.Proofs.Ytnapodeiigkebaa
open Go.ChangeShapes Go.WideShapes Go.ChangeAt Go.RowKit Go.Deep Go.Joins
set_option maxRecDepth 100000

theorem cellsInt6 : Try.prog.cellsOf 3 = 1 := by kernel_rfl
section
variable {H : Type} {enc : TypeId × Value → H} {W : World} {base : Nat}
theorem cells_part : Try.prog.cellsOf 80 = 2 := by kernel_rfl
theorem part_cells {fuel : Nat} {cs : List Value} {x : DataW H × List MemPlace} {sp : Nat → Bool} {held : Bool} (h : DataW.trod enc Try.prog W base sp held fuel 80 cs = some x) : ∃ T : Row, T.length = 2 ∧ cs = T.map (Value.int .i64) := by
  obtain ⟨xs, n, _, _, hlen, hxl, hg⟩ := DataW.trod_struct Try.underlying80 h
  rw [cells_part] at hlen
  match xs, hxl, cs, hlen with
  | [y0, y1], _, [v0, v1], _ =>
    have g0 := hg 0 _ rfl
    have g1 := hg 1 _ rfl
    simp [cellsInt6] at g0 g1
    obtain ⟨n0, f0, _, _⟩ := DataW.trod_int Try.underlying3 g0
    obtain ⟨n1, f1, _, _⟩ := DataW.trod_int Try.underlying3 g1
    simp at f0 f1
    subst f0 f1
    exact ⟨[n0, n1], rfl, rfl⟩
theorem part_rows {fuel : Nat} {cs : List Value} {x : DataW H × List MemPlace} (hf : DataW.trod enc Try.prog W 0 (fun _ => true) true fuel 22 cs = some x) (hlt : ∀ y ∈ x.2, y.block < W.heap.size) : ∃ v S, cs = [v] ∧ RowsIn 2 W v S := by
  rcases open_slice Try.underlying22 hf with ⟨rfl, _⟩ | ⟨a, len, cap, m, n, D, Pl, rfl, _, hl, _, hmm, hx, hi⟩
  · exact ⟨_, [], rfl, none, 0, rfl, by simp, Or.inl rfl⟩
  · have hm : m = cap := by simpa using hmm
    have each : ∀ i, i < len → ∃ q : Row, q.length = 2 ∧ ∀ j, j < 2 → W.cell? (a.add (i * 2 + j)) = some (.int .i64 (q.getD j 0)) := by
      intro i hil
      obtain ⟨cs', h1, h2⟩ := hi i (by omega)
      rw [cells_part] at h1
      obtain ⟨_, hlen, hcell⟩ := World.cells?_some h1
      obtain ⟨T, hT, rfl⟩ := part_cells h2
      refine ⟨T, hT, fun j hj => ?_⟩
      have e := hcell j (by simpa using hj)
      rw [add_add] at e
      rw [e]
      simp [List.getD_eq_getElem?_getD, hT, hj]
    obtain ⟨q, hq⟩ := choose_lt each
    have hS : ((List.range len).map q).length = len := by simp
    refine ⟨_, (List.range len).map q, rfl, some a, cap, by rw [hS], fun T hT => ?_, ?_⟩
    · simp only [List.mem_map, List.mem_range] at hT
      obtain ⟨i, hi', rfl⟩ := hT
      exact (hq i hi').1
    by_cases h0 : len = 0
    · subst h0; exact Or.inl rfl
    · obtain ⟨b, off, spot⟩ := a
      have hspot : spot = none := by simpa [Addr.add] using World.cell?_spot ((hq 0 (by omega)).2 0 (by omega))
      subst hspot
      refine Or.inr ⟨b, off, rfl, hlt (.cell b off) (by rw [hx]; exact List.mem_append_left _ (MemPlace.mem_row.2 ⟨0, by rw [cells_part]; omega, by simp⟩)), fun i hil j hj => ?_⟩
      rw [hS] at hil
      have e : ((List.range len).map q).getD i [] = q i := by simp [List.getD_eq_getElem?_getD, hil]
      rw [e]
      have := (hq i hil).2 j hj
      simp only [add_plain] at this
      simpa [Nat.add_assoc] using this
theorem cells_win : Try.prog.cellsOf 112 = 2 := by kernel_rfl
theorem win_cells {fuel : Nat} {cs : List Value} {x : DataW H × List MemPlace} {sp : Nat → Bool} {held : Bool} (h : DataW.trod enc Try.prog W base sp held fuel 112 cs = some x) : ∃ T : Row, T.length = 2 ∧ cs = T.map (Value.int .i64) := by
  obtain ⟨xs, n, _, _, hlen, hxl, hg⟩ := DataW.trod_struct Try.underlying112 h
  rw [cells_win] at hlen
  match xs, hxl, cs, hlen with
  | [y0, y1], _, [v0, v1], _ =>
    have g0 := hg 0 _ rfl
    have g1 := hg 1 _ rfl
    simp [cellsInt6] at g0 g1
    obtain ⟨n0, f0, _, _⟩ := DataW.trod_int Try.underlying3 g0
    obtain ⟨n1, f1, _, _⟩ := DataW.trod_int Try.underlying3 g1
    simp at f0 f1
    subst f0 f1
    exact ⟨[n0, n1], rfl, rfl⟩
theorem win_rows {fuel : Nat} {cs : List Value} {x : DataW H × List MemPlace} (hf : DataW.trod enc Try.prog W 0 (fun _ => true) true fuel 23 cs = some x) (hlt : ∀ y ∈ x.2, y.block < W.heap.size) : ∃ v S, cs = [v] ∧ RowsIn 2 W v S := by
  rcases open_slice Try.underlying23 hf with ⟨rfl, _⟩ | ⟨a, len, cap, m, n, D, Pl, rfl, _, hl, _, hmm, hx, hi⟩
  · exact ⟨_, [], rfl, none, 0, rfl, by simp, Or.inl rfl⟩
  · have hm : m = cap := by simpa using hmm
    have each : ∀ i, i < len → ∃ q : Row, q.length = 2 ∧ ∀ j, j < 2 → W.cell? (a.add (i * 2 + j)) = some (.int .i64 (q.getD j 0)) := by
      intro i hil
      obtain ⟨cs', h1, h2⟩ := hi i (by omega)
      rw [cells_win] at h1
      obtain ⟨_, hlen, hcell⟩ := World.cells?_some h1
      obtain ⟨T, hT, rfl⟩ := win_cells h2
      refine ⟨T, hT, fun j hj => ?_⟩
      have e := hcell j (by simpa using hj)
      rw [add_add] at e
      rw [e]
      simp [List.getD_eq_getElem?_getD, hT, hj]
    obtain ⟨q, hq⟩ := choose_lt each
    have hS : ((List.range len).map q).length = len := by simp
    refine ⟨_, (List.range len).map q, rfl, some a, cap, by rw [hS], fun T hT => ?_, ?_⟩
    · simp only [List.mem_map, List.mem_range] at hT
      obtain ⟨i, hi', rfl⟩ := hT
      exact (hq i hi').1
    by_cases h0 : len = 0
    · subst h0; exact Or.inl rfl
    · obtain ⟨b, off, spot⟩ := a
      have hspot : spot = none := by simpa [Addr.add] using World.cell?_spot ((hq 0 (by omega)).2 0 (by omega))
      subst hspot
      refine Or.inr ⟨b, off, rfl, hlt (.cell b off) (by rw [hx]; exact List.mem_append_left _ (MemPlace.mem_row.2 ⟨0, by rw [cells_win]; omega, by simp⟩)), fun i hil j hj => ?_⟩
      rw [hS] at hil
      have e : ((List.range len).map q).getD i [] = q i := by simp [List.getD_eq_getElem?_getD, hil]
      rw [e]
      have := (hq i hil).2 j hj
      simp only [add_plain] at this
      simpa [Nat.add_assoc] using this
theorem cells_chan : Try.prog.cellsOf 47 = 4 := by kernel_rfl
theorem chan_cells {fuel : Nat} {cs : List Value} {x : DataW H × List MemPlace} {sp : Nat → Bool} {held : Bool} (h : DataW.trod enc Try.prog W base sp held fuel 47 cs = some x) : ∃ T : Row, T.length = 4 ∧ cs = T.map (Value.int .i64) := by
  obtain ⟨xs, n, _, _, hlen, hxl, hg⟩ := DataW.trod_struct Try.underlying47 h
  rw [cells_chan] at hlen
  match xs, hxl, cs, hlen with
  | [y0, y1, y2, y3], _, [v0, v1, v2, v3], _ =>
    have g0 := hg 0 _ rfl
    have g1 := hg 1 _ rfl
    have g2 := hg 2 _ rfl
    have g3 := hg 3 _ rfl
    simp [cellsInt6] at g0 g1 g2 g3
    obtain ⟨n0, f0, _, _⟩ := DataW.trod_int Try.underlying3 g0
    obtain ⟨n1, f1, _, _⟩ := DataW.trod_int Try.underlying3 g1
    obtain ⟨n2, f2, _, _⟩ := DataW.trod_int Try.underlying3 g2
    obtain ⟨n3, f3, _, _⟩ := DataW.trod_int Try.underlying3 g3
    simp at f0 f1 f2 f3
    subst f0 f1 f2 f3
    exact ⟨[n0, n1, n2, n3], rfl, rfl⟩
theorem chan_rows {fuel : Nat} {cs : List Value} {x : DataW H × List MemPlace} (hf : DataW.trod enc Try.prog W 0 (fun _ => true) true fuel 24 cs = some x) (hlt : ∀ y ∈ x.2, y.block < W.heap.size) : ∃ v S, cs = [v] ∧ RowsIn 4 W v S := by
  rcases open_slice Try.underlying24 hf with ⟨rfl, _⟩ | ⟨a, len, cap, m, n, D, Pl, rfl, _, hl, _, hmm, hx, hi⟩
  · exact ⟨_, [], rfl, none, 0, rfl, by simp, Or.inl rfl⟩
  · have hm : m = cap := by simpa using hmm
    have each : ∀ i, i < len → ∃ q : Row, q.length = 4 ∧ ∀ j, j < 4 → W.cell? (a.add (i * 4 + j)) = some (.int .i64 (q.getD j 0)) := by
      intro i hil
      obtain ⟨cs', h1, h2⟩ := hi i (by omega)
      rw [cells_chan] at h1
      obtain ⟨_, hlen, hcell⟩ := World.cells?_some h1
      obtain ⟨T, hT, rfl⟩ := chan_cells h2
      refine ⟨T, hT, fun j hj => ?_⟩
      have e := hcell j (by simpa using hj)
      rw [add_add] at e
      rw [e]
      simp [List.getD_eq_getElem?_getD, hT, hj]
    obtain ⟨q, hq⟩ := choose_lt each
    have hS : ((List.range len).map q).length = len := by simp
    refine ⟨_, (List.range len).map q, rfl, some a, cap, by rw [hS], fun T hT => ?_, ?_⟩
    · simp only [List.mem_map, List.mem_range] at hT
      obtain ⟨i, hi', rfl⟩ := hT
      exact (hq i hi').1
    by_cases h0 : len = 0
    · subst h0; exact Or.inl rfl
    · obtain ⟨b, off, spot⟩ := a
      have hspot : spot = none := by simpa [Addr.add] using World.cell?_spot ((hq 0 (by omega)).2 0 (by omega))
      subst hspot
      refine Or.inr ⟨b, off, rfl, hlt (.cell b off) (by rw [hx]; exact List.mem_append_left _ (MemPlace.mem_row.2 ⟨0, by rw [cells_chan]; omega, by simp⟩)), fun i hil j hj => ?_⟩
      rw [hS] at hil
      have e : ((List.range len).map q).getD i [] = q i := by simp [List.getD_eq_getElem?_getD, hil]
      rw [e]
      have := (hq i hil).2 j hj
      simp only [add_plain] at this
      simpa [Nat.add_assoc] using this
theorem cellsConf : Try.prog.cellsOf 26 = 3 := by kernel_rfl
theorem cellsParts : Try.prog.cellsOf 22 = 1 := by kernel_rfl
theorem cellsWins : Try.prog.cellsOf 23 = 1 := by kernel_rfl
theorem cellsChans : Try.prog.cellsOf 24 = 1 := by kernel_rfl
theorem conf_open {v : Value} {d : DataW H} {p : List MemPlace} (hv : Value.okWide Try.prog W .any base 26 v)
    (h : DataW.Trod enc Try.prog W 0 (fun _ => true) true 26 v d p) (hlt : ∀ x ∈ p, x.block < W.heap.size) : ∃ C : Cf, ConfIn W v C := by
  obtain ⟨cs, rfl, _⟩ := okWide_struct Try.underlying26 hv
  obtain ⟨fuel, hf⟩ := h
  obtain ⟨xs, n, _, hx, hlen, hxl, hg⟩ := DataW.trod_struct Try.underlying26 hf
  rw [cellsConf] at hlen
  have hcs : (Value.agg cs).cells.toList = cs.toList := by simp [Value.cells]
  rw [hcs] at hlen hg
  obtain ⟨c0, c1, c2, hc⟩ : ∃ c0 c1 c2, cs.toList = [c0, c1, c2] := by
    match cs.toList, hlen with
    | [c0, c1, c2], _ => exact ⟨_, _, _, rfl⟩
  rw [hc] at hg
  match xs, hxl with
  | [y0, y1, y2], _ =>
    have g0 := hg 0 _ rfl
    have g1 := hg 1 _ rfl
    have g2 := hg 2 _ rfl
    simp [cellsParts, cellsWins, cellsChans] at g0 g1 g2
    simp only [Prod.mk.injEq] at hx
    obtain ⟨v1, P, e1, h1⟩ := part_rows g0 (fun y hy => hlt y (by rw [hx.2]; simp [hy]))
    obtain ⟨v2, W', e2, h2⟩ := win_rows g1 (fun y hy => hlt y (by rw [hx.2]; simp [hy]))
    obtain ⟨v3, H', e3, h3⟩ := chan_rows g2 (fun y hy => hlt y (by rw [hx.2]; simp [hy]))
    simp at e1 e2 e3
    subst e1 e2 e3
    refine ⟨(P, W', H'), _, _, _, ?_, h1, h2, h3⟩
    have : cs = #[c0, c1, c2] := by
      have := congrArg List.toArray hc
      simpa using this
    rw [this]
end
end Go.Proofs.Ytnapodeiigkebaa