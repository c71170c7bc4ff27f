/- Arguments of layer 4's laws, opened: a trap, a slice of words, a slice of traps. No condition. -/
import Derived.Test.YteohfonmckahgaaT2
import Derived.Test.YteohfonmckahgaaLF
import Derived.Deep.Slices
import Derived.Lib.SmallJoins
namespace Go.Proofs.Yteohfonmckahgaa
open Go.ChangeShapes Go.WideShapes Go.ChangeAt Go.RowKit Go.Deep Go.Joins
set_option maxRecDepth 100000

theorem cellsTrap : Try.prog.cellsOf 26 = 10 := by kernel_rfl
theorem cellsRegs : Try.prog.cellsOf 24 = 8 := by kernel_rfl
theorem cellsWord : Try.prog.cellsOf 23 = 1 := by kernel_rfl

section
variable {H : Type} {enc : TypeId × Value → H} {W : World} {base : Nat} {sp : Nat → Bool} {held : Bool}
theorem trap_cells {fuel : Nat} {cs : List Value} {x : DataW H × List MemPlace} (h : DataW.trod enc Try.prog W base sp held fuel 26 cs = some x) : ∃ T : List Int, T.length = 10 ∧ cs = T.map (Value.int .u32) := by
  obtain ⟨xs, k, _, _, hlen, hxl, hg⟩ := DataW.trod_struct Try.underlying26 h
  rw [cellsTrap] at hlen
  match xs, hxl, cs, hlen with
  | [y0, y1, y2], _, [v0, v1, v2, v3, v4, v5, v6, v7, v8, v9], _ =>
    have g0 := hg 0 _ rfl
    have g1 := hg 1 _ rfl
    have g2 := hg 2 _ rfl
    simp [cellsRegs, cellsWord] at g0 g1 g2
    obtain ⟨ys, m, _, _, _, hyl, hi⟩ := DataW.trod_array Try.underlying24 g0
    match ys, hyl with
    | [z0, z1, z2, z3, z4, z5, z6, z7], _ =>
      have i0 := hi 0 (by omega)
      have i1 := hi 1 (by omega)
      have i2 := hi 2 (by omega)
      have i3 := hi 3 (by omega)
      have i4 := hi 4 (by omega)
      have i5 := hi 5 (by omega)
      have i6 := hi 6 (by omega)
      have i7 := hi 7 (by omega)
      simp [cellsWord] at i0 i1 i2 i3 i4 i5 i6 i7
      obtain ⟨n0, f0, _, _⟩ := DataW.trod_int Try.underlying23 i0
      obtain ⟨n1, f1, _, _⟩ := DataW.trod_int Try.underlying23 i1
      obtain ⟨n2, f2, _, _⟩ := DataW.trod_int Try.underlying23 i2
      obtain ⟨n3, f3, _, _⟩ := DataW.trod_int Try.underlying23 i3
      obtain ⟨n4, f4, _, _⟩ := DataW.trod_int Try.underlying23 i4
      obtain ⟨n5, f5, _, _⟩ := DataW.trod_int Try.underlying23 i5
      obtain ⟨n6, f6, _, _⟩ := DataW.trod_int Try.underlying23 i6
      obtain ⟨n7, f7, _, _⟩ := DataW.trod_int Try.underlying23 i7
      obtain ⟨n8, f8, _, _⟩ := DataW.trod_int Try.underlying23 g1
      obtain ⟨n9, f9, _, _⟩ := DataW.trod_int Try.underlying23 g2
      simp at f0 f1 f2 f3 f4 f5 f6 f7 f8 f9
      subst f0 f1 f2 f3 f4 f5 f6 f7 f8 f9
      exact ⟨[n0, n1, n2, n3, n4, n5, n6, n7, n8, n9], rfl, rfl⟩
theorem trap_open {r : Reach} {b0 : Nat} {v : Value} {d : DataW H} {p : List MemPlace} (hv : Value.okWide Try.prog W r b0 26 v)
    (h : DataW.Trod enc Try.prog W base sp held 26 v d p) : ∃ T : List Int, v = .agg (wordsV T) ∧ T.length = 10 := by
  obtain ⟨cs, rfl, hsz⟩ := okWide_struct Try.underlying26 hv
  obtain ⟨fuel, hf⟩ := h
  obtain ⟨T, hT, e⟩ := trap_cells hf
  refine ⟨T, ?_, hT⟩
  have : cs = (T.map (Value.int .u32)).toArray := by rw [← e]; simp [Value.cells]
  rw [this, wordsV]
end

section
variable {H : Type} {enc : TypeId × Value → H} {W : World} {base : Nat}
theorem words_open {v : Value} {d : DataW H} {p : List MemPlace} (hv : Value.okWide Try.prog W .any base 27 v)
    (h : DataW.Trod enc Try.prog W 0 (fun _ => true) true 27 v d p) (hlt : ∀ x ∈ p, x.block < W.heap.size) : ∃ L : List Int, RowAt W v L := by
  obtain ⟨a0, len, cap, rfl⟩ := okWide_slice Try.underlying27 hv
  obtain ⟨fuel, hf⟩ := h
  rcases open_slice Try.underlying27 hf with ⟨hcs, _⟩ | ⟨a, len', cap', m, n, D, Pl, hcs, _, hl, _, hmm, hx, hi⟩
  · simp [Value.cells] at hcs
    obtain ⟨rfl, rfl, rfl⟩ := hcs
    exact ⟨[], none, 0, rfl, Or.inl rfl⟩
  · simp [Value.cells] at hcs
    obtain ⟨rfl, rfl, rfl⟩ := hcs
    have hm : m = cap := by simpa using hmm
    have each : ∀ i, i < len → ∃ q : Int, W.cell? (a.add i) = some (.int .u32 q) := by
      intro i hil
      obtain ⟨cs', h1, h2⟩ := hi i (by omega)
      rw [cellsWord, Nat.mul_one] at h1
      obtain ⟨_, hlen, hcell⟩ := World.cells?_some h1
      match cs', hlen with
      | [v0], _ =>
        have e0 := hcell 0 (by omega)
        rw [add_add] at e0
        obtain ⟨n0, f0, _, _⟩ := DataW.trod_int Try.underlying23 h2
        simp at f0
        subst f0
        exact ⟨n0, by simpa using e0⟩
    obtain ⟨q, hq⟩ := choose_lt each
    have hS : ((List.range len).map q).length = len := by simp
    refine ⟨(List.range len).map q, some a, cap, by rw [hS], ?_⟩
    by_cases h0 : len = 0
    · subst h0; exact Or.inl rfl
    · obtain ⟨b, off, spot⟩ := a
      have hspot : spot = none := by simpa [Addr.add] using World.cell?_spot (hq 0 (by omega))
      subst hspot
      simp only [Prod.mk.injEq] at hx
      refine Or.inr ⟨b, off, rfl, hlt (.cell b off) (by rw [hx.2]; exact List.mem_append_left _ (MemPlace.mem_row.2 ⟨0, by rw [cellsWord]; omega, by simp⟩)), fun i hil => ?_⟩
      rw [hS] at hil
      have e : ((List.range len).map q).getD i 0 = q i := by simp [List.getD_eq_getElem?_getD, hil]
      rw [e]
      have := hq i hil
      simp only [add_plain] at this
      exact this

/-- A slice of traps: each one's ten cells. -/
def TrapsAt (w : World) (v : Value) (S : List (List Int)) : Prop := ∃ a c, v = .slice a S.length c ∧ (∀ T ∈ S, T.length = 10) ∧ (S = [] ∨ ∃ b o, a = some ⟨b, o, none⟩ ∧ b < w.heap.size ∧
  ∀ i, i < S.length → ∀ j, j < 10 → w.cell? ⟨b, o + i * 10 + j, none⟩ = some (.int .u32 ((S.getD i []).getD j 0)))
theorem traps_open {v : Value} {d : DataW H} {p : List MemPlace} (hv : Value.okWide Try.prog W .any base 52 v)
    (h : DataW.Trod enc Try.prog W 0 (fun _ => true) true 52 v d p) (hlt : ∀ x ∈ p, x.block < W.heap.size) : ∃ S : List (List Int), TrapsAt W v S := by
  obtain ⟨a0, len, cap, rfl⟩ := okWide_slice Try.underlying52 hv
  obtain ⟨fuel, hf⟩ := h
  rcases open_slice Try.underlying52 hf with ⟨hcs, _⟩ | ⟨a, len', cap', m, n, D, Pl, hcs, _, hl, _, hmm, hx, hi⟩
  · simp [Value.cells] at hcs
    obtain ⟨rfl, rfl, rfl⟩ := hcs
    exact ⟨[], none, 0, rfl, by simp, Or.inl rfl⟩
  · simp [Value.cells] at hcs
    obtain ⟨rfl, rfl, rfl⟩ := hcs
    have hm : m = cap := by simpa using hmm
    have each : ∀ i, i < len → ∃ q : List Int, q.length = 10 ∧ ∀ j, j < 10 → W.cell? (a.add (i * 10 + j)) = some (.int .u32 (q.getD j 0)) := by
      intro i hil
      obtain ⟨cs', h1, h2⟩ := hi i (by omega)
      rw [cellsTrap] at h1
      obtain ⟨_, hlen, hcell⟩ := World.cells?_some h1
      obtain ⟨T, hT, rfl⟩ := trap_cells h2
      refine ⟨T, hT, fun j hj => ?_⟩
      have e := hcell j (by simpa using hj)
      rw [add_add] at e
      rw [e]
      simp [List.getD_eq_getElem?_getD, hT, hj]
    obtain ⟨q, hq⟩ := choose_lt each
    have hS : ((List.range len).map q).length = len := by simp
    refine ⟨(List.range len).map q, some a, cap, by rw [hS], fun T hT => ?_, ?_⟩
    · simp only [List.mem_map, List.mem_range] at hT
      obtain ⟨i, hi', rfl⟩ := hT
      exact (hq i hi').1
    by_cases h0 : len = 0
    · subst h0; exact Or.inl rfl
    · obtain ⟨b, off, spot⟩ := a
      have hspot : spot = none := by simpa [Addr.add] using World.cell?_spot ((hq 0 (by omega)).2 0 (by omega))
      subst hspot
      simp only [Prod.mk.injEq] at hx
      refine Or.inr ⟨b, off, rfl, hlt (.cell b off) (by rw [hx.2]; exact List.mem_append_left _ (MemPlace.mem_row.2 ⟨0, by rw [cellsTrap]; omega, by simp⟩)), fun i hil j hj => ?_⟩
      rw [hS] at hil
      have e : ((List.range len).map q).getD i [] = q i := by simp [List.getD_eq_getElem?_getD, hil]
      rw [e]
      have := (hq i hil).2 j hj
      simp only [add_plain] at this
      simpa [Nat.add_assoc] using this
end
end Go.Proofs.Yteohfonmckahgaa
