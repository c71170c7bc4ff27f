/- Arguments of layer 19's laws, opened: a message, a slice of calls. No condition. -/
import Derived.Test.YtnapodeiigkebaaGLF
import Derived.Test.YtnapodeiigkebaaGA0
import Derived.Deep.Slices
import Derived.Lib.SmallJoins
namespace Go.Proofs.Ytnapodeiigkebaa
open Go.ChangeShapes Go.WideShapes Go.ChangeAt Go.RowKit Go.Deep Go.Joins
set_option maxRecDepth 100000

theorem cellsWord19 : Try.prog.cellsOf 57 = 1 := by kernel_rfl
theorem cellsInt19 : Try.prog.cellsOf 3 = 1 := by kernel_rfl
theorem cellsMsg19 : Try.prog.cellsOf 43 = 1 := by kernel_rfl
/-- A slice of words, as an argument. -/
def ArgMs (w : World) (v : Value) (L : List Int) : Prop := ∃ a c, v = .slice a L.length c ∧ L.length ≤ c ∧ c ≤ maxLen ∧ (a = none → c = 0) ∧ (∀ x ∈ L, 0 ≤ x ∧ x ≤ 4294967295) ∧ (L = [] ∨ ∃ b o, a = some ⟨b, o, none⟩ ∧ b < w.heap.size ∧ ∀ i, i < L.length → w.cell? ⟨b, o + i, none⟩ = some (.int .u32 (L.getD i 0)))
section
variable {H : Type} {enc : TypeId × Value → H} {W : World} {base : Nat}
theorem msg_cells19 {fuel : Nat} {cs : List Value} {x : DataW H × List MemPlace} (h : DataW.trod enc Try.prog W 0 (fun _ => true) true fuel 43 cs = some x) (hlt : ∀ y ∈ x.2, y.block < W.heap.size) : ∃ v L, cs = [v] ∧ ArgMs W v L := by
  rcases open_slice Try.underlying43 h with ⟨rfl, _⟩ | ⟨a, len, cap, m, n, D, Pl, rfl, _, hl, hmx, hmm, hx, hi⟩
  · exact ⟨_, [], rfl, none, 0, rfl, Nat.le_refl _, Nat.zero_le _, fun _ => rfl, by simp, Or.inl rfl⟩
  · have hm : m = cap := by simpa using hmm
    have each : ∀ i, i < len → ∃ q : Int, W.cell? (a.add i) = some (.int .u32 q) ∧ (0 ≤ q ∧ q ≤ 4294967295) := by
      intro i hil
      obtain ⟨cs', h1, h2⟩ := hi i (by omega)
      rw [cellsWord19, Nat.mul_one] at h1
      obtain ⟨_, hlen, hcell⟩ := World.cells?_some h1
      match cs', hlen with
      | [v0], _ =>
        have e0 := hcell 0 (by omega)
        rw [add_add] at e0
        obtain ⟨n0, f0, _, w0⟩ := DataW.trod_int Try.underlying57 h2
        simp at f0
        subst f0
        exact ⟨n0, by simpa using e0, bounds_u32 w0⟩
    obtain ⟨q, hq⟩ := choose_lt each
    have hS : ((List.range len).map q).length = len := by simp
    refine ⟨_, (List.range len).map q, rfl, some a, cap, by rw [hS], by rw [hS]; exact hl, hmx, (fun e => by cases e), ?_, ?_⟩
    · intro x hx
      obtain ⟨i, hi, rfl⟩ := List.mem_map.1 hx
      exact (hq i (List.mem_range.1 hi)).2
    by_cases h0 : len = 0
    · subst h0; exact Or.inl rfl
    · obtain ⟨b, off, spot⟩ := a
      have hspot : spot = none := by simpa [Addr.add] using World.cell?_spot ((hq 0 (by omega)).1)
      subst hspot
      refine Or.inr ⟨b, off, rfl, hlt (.cell b off) (by rw [hx]; exact List.mem_append_left _ (MemPlace.mem_row.2 ⟨0, by rw [cellsWord19]; omega, by simp⟩)), fun i hil => ?_⟩
      rw [hS] at hil
      have e : ((List.range len).map q).getD i 0 = q i := by simp [List.getD_eq_getElem?_getD, hil]
      rw [e]
      have := (hq i hil).1
      simp only [add_plain] at this
      exact this
theorem ms19_open {v : Value} {d : DataW H} {p : List MemPlace} (hv : Value.okWide Try.prog W .any base 43 v)
    (h : DataW.Trod enc Try.prog W 0 (fun _ => true) true 43 v d p) (hlt : ∀ x ∈ p, x.block < W.heap.size) : ∃ L : List Int, ArgMs W v L := by
  obtain ⟨a0, len, cap, rfl⟩ := okWide_slice Try.underlying43 hv
  obtain ⟨fuel, hf⟩ := h
  obtain ⟨u, L, e, hL⟩ := msg_cells19 hf hlt
  simp [Value.cells] at e
  subst e
  exact ⟨L, hL⟩
end
end Go.Proofs.Ytnapodeiigkebaa
