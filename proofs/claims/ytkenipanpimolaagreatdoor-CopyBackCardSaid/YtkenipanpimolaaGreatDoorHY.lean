/- Texts of mine, joined: OG S50 OH OI. What each says and under which conditions stands at its head, below. -/
import Derived.Test.YtkenipanpimolaaGreatDoorGLF
import Derived.Deep.Slices
import Derived.Lib.SmallJoins
import Derived.Test.YtkenipanpimolaaGreatDoorHW
import Derived.Test.YtkenipanpimolaaGreatDoorS42
/- Arguments of layer 16's laws, opened: a slice of words. No condition. -/
namespace Go.Proofs.YtkenipanpimolaaGreatDoor
open Go.ChangeShapes Go.WideShapes Go.ChangeAt Go.RowKit Go.Deep Go.Joins
set_option maxRecDepth 100000

theorem cellsWord16 : Tryz.prog.cellsOf 23 = 1 := by kernel_rfl
/-- A slice of words, as an argument. -/
def ArgWs (w : World) (v : Value) (L : List Int) : Prop := ∃ a c, v = .slice a L.length c ∧ (∀ x ∈ L, 0 ≤ x ∧ x ≤ 4294967295) ∧ (L = [] ∨ ∃ b o, a = some ⟨b, o, none⟩ ∧ b < w.heap.size ∧ ∀ i, i < L.length → w.cell? ⟨b, o + i, none⟩ = some (.int .u32 (L.getD i 0)))
section
variable {H : Type} {enc : TypeId × Value → H} {W : World} {base : Nat}
theorem ws16_open {v : Value} {d : DataW H} {p : List MemPlace} (hv : Value.okWide Tryz.prog W .any base 24 v)
    (h : DataW.Trod enc Tryz.prog W 0 (fun _ => true) true 24 v d p) (hlt : ∀ x ∈ p, x.block < W.heap.size) : ∃ L : List Int, ArgWs W v L := by
  obtain ⟨a0, len, cap, rfl⟩ := okWide_slice Tryz.underlying24 hv
  obtain ⟨fuel, hf⟩ := h
  rcases open_slice Tryz.underlying24 hf with ⟨hcs, _⟩ | ⟨a, len', cap', m, n, D, Pl, hcs, _, hl, _, hmm, hx, hi⟩
  · simp [Value.cells] at hcs
    obtain ⟨rfl, rfl, rfl⟩ := hcs
    exact ⟨[], none, 0, rfl, by simp, Or.inl rfl⟩
  · simp [Value.cells] at hcs
    obtain ⟨rfl, rfl, rfl⟩ := hcs
    have hm : m = cap := by simpa using hmm
    have each : ∀ i, i < len → ∃ q : Int, W.cell? (a.add i) = some (.int .u32 q) ∧ (0 ≤ q ∧ q ≤ 4294967295) := by
      intro i hil
      obtain ⟨cs', h1, h2⟩ := hi i (by omega)
      rw [cellsWord16, Nat.mul_one] at h1
      obtain ⟨_, hlen, hcell⟩ := World.cells?_some h1
      match cs', hlen with
      | [v0], _ =>
        have e0 := hcell 0 (by omega)
        rw [add_add] at e0
        obtain ⟨n0, f0, _, w0⟩ := DataW.trod_int Tryz.underlying23 h2
        simp at f0
        subst f0
        exact ⟨n0, by simpa using e0, bounds_u32 w0⟩
    obtain ⟨q, hq⟩ := choose_lt each
    have hS : ((List.range len).map q).length = len := by simp
    refine ⟨(List.range len).map q, some a, cap, by rw [hS], ?_, ?_⟩
    · intro x hx
      obtain ⟨i, hi, rfl⟩ := List.mem_map.1 hx
      exact (hq i (List.mem_range.1 hi)).2
    by_cases h0 : len = 0
    · subst h0; exact Or.inl rfl
    · obtain ⟨b, off, spot⟩ := a
      have hspot : spot = none := by simpa [Addr.add] using World.cell?_spot ((hq 0 (by omega)).1)
      subst hspot
      simp only [Prod.mk.injEq] at hx
      refine Or.inr ⟨b, off, rfl, hlt (.cell b off) (by rw [hx.2]; exact List.mem_append_left _ (MemPlace.mem_row.2 ⟨0, by rw [cellsWord16]; omega, by simp⟩)), fun i hil => ?_⟩
      rw [hS] at hil
      have e : ((List.range len).map q).getD i 0 = q i := by simp [List.getD_eq_getElem?_getD, hil]
      rw [e]
      have := (hq i hil).1
      simp only [add_plain] at this
      exact this
end
end Go.Proofs.YtkenipanpimolaaGreatDoor

/- The walk of the law SpaceNone. Condition: the listed tables lie as laid. -/
namespace Go.Proofs.YtkenipanpimolaaGreatDoor
open Go.RowKit Go.Maps
set_option maxRecDepth 100000

section
variable {k i t n x y va u : Int} {d : Bool}
abbrev opA (k i t n x y : Int) (d : Bool) (va u : Int) : Array Value := #[.int .i64 k, .int .i64 i, .int .i64 t, .int .i64 n, .int .i64 x, .int .i64 y, .bool d, .int .u32 va, .int .u32 u]
end
end Go.Proofs.YtkenipanpimolaaGreatDoor

/- Arguments of layer 16's laws, opened: an operation. No condition. -/
namespace Go.Proofs.YtkenipanpimolaaGreatDoor
open Go.ChangeShapes Go.WideShapes Go.ChangeAt Go.RowKit Go.Deep Go.Joins
set_option maxRecDepth 100000

/-- The numbers of an operation, as wide as their types. -/
structure WideOp (k i t n x y va u : Int) : Prop where
  wk : I64 k
  wi : I64 i
  wt : I64 t
  wn : I64 n
  wx : I64 x
  wy : I64 y
  wv : 0 ≤ va ∧ va ≤ 4294967295
  wu : 0 ≤ u ∧ u ≤ 4294967295
section
variable {H : Type} {enc : TypeId × Value → H} {W : World} {base : Nat} {sp : Nat → Bool} {held : Bool}
end
section
variable {H : Type} {enc : TypeId × Value → H} {W : World} {base : Nat}
end
end Go.Proofs.YtkenipanpimolaaGreatDoor

/- Arguments of layer 16's laws, opened: a slice of operations. No condition. -/
namespace Go.Proofs.YtkenipanpimolaaGreatDoor
open Go.ChangeShapes Go.WideShapes Go.ChangeAt Go.RowKit Go.Deep Go.Joins
set_option maxRecDepth 100000

/-- An operation. -/
structure Op16 where
  k : Int
  i : Int
  t : Int
  n : Int
  x : Int
  y : Int
  d : Bool
  va : Int
  u : Int
instance : Inhabited Op16 := ⟨⟨0, 0, 0, 0, 0, 0, false, 0, 0⟩⟩
def Op16.Wide (o : Op16) : Prop := WideOp o.k o.i o.t o.n o.x o.y o.va o.u
/-- An operation's cells. -/
structure OpCells (w : World) (b o : Nat) (q : Op16) : Prop where
  c0 : w.cell? ⟨b, o, none⟩ = some (.int .i64 q.k)
  c1 : w.cell? ⟨b, o + 1, none⟩ = some (.int .i64 q.i)
  c2 : w.cell? ⟨b, o + 2, none⟩ = some (.int .i64 q.t)
  c3 : w.cell? ⟨b, o + 3, none⟩ = some (.int .i64 q.n)
  c4 : w.cell? ⟨b, o + 4, none⟩ = some (.int .i64 q.x)
  c5 : w.cell? ⟨b, o + 5, none⟩ = some (.int .i64 q.y)
  c6 : w.cell? ⟨b, o + 6, none⟩ = some (.bool q.d)
  c7 : w.cell? ⟨b, o + 7, none⟩ = some (.int .u32 q.va)
  c8 : w.cell? ⟨b, o + 8, none⟩ = some (.int .u32 q.u)
/-- A slice of operations, as an argument. -/
def ArgOps16 (w : World) (v : Value) (S : List Op16) : Prop := ∃ a c, v = .slice a S.length c ∧ (∀ x ∈ S, x.Wide) ∧ (S = [] ∨ ∃ b o, a = some ⟨b, o, none⟩ ∧ b < w.heap.size ∧ ∀ i, i < S.length → OpCells w b (o + i * 9) (S.getD i default))
section
variable {H : Type} {enc : TypeId × Value → H} {W : World} {base : Nat}
end
end Go.Proofs.YtkenipanpimolaaGreatDoor
