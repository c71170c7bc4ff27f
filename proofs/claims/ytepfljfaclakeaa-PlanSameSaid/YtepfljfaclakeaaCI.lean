/- A configuration among a law's arguments; one in a variable. Conditions: named in the theorems. -/
import Derived.Test.YtepfljfaclakeaaC5
namespace Go.Proofs.Ytepfljfaclakeaa
open Go.RowKit
set_option maxRecDepth 100000

/-- Rows that came in. -/
def RowsIn (k : Nat) (w : World) (v : Value) (S : List Row) : Prop := ∃ a c, v = .slice a S.length c ∧ (∀ T ∈ S, T.length = k) ∧ (S = [] ∨ ∃ b o, a = some ⟨b, o, none⟩ ∧ b < w.heap.size ∧
  ∀ i, i < S.length → ∀ j, j < k → w.cell? ⟨b, o + i * k + j, none⟩ = some (.int .i64 ((S.getD i []).getD j 0)))
theorem RowsIn.at_ {k : Nat} {w : World} {v : Value} {S : List Row} (h : RowsIn k w v S) (hl : S.length ≤ 100) : RowsAt k w v S := by
  obtain ⟨a, c, rfl, hT, hS⟩ := h
  exact ⟨a, c, rfl, by omega, hT, hS⟩
/-- A configuration that came in. -/
structure ConfIn (w : World) (v : Value) (C : Cf) : Prop where
  parts : ∃ v1 v2 v3, v = .agg #[v1, v2, v3] ∧ RowsIn 2 w v1 C.1 ∧ RowsIn 2 w v2 C.2.1 ∧ RowsIn 4 w v3 C.2.2
/-- Are there more than 100 of something? -/
def longC (C : Cf) : Prop := 100 < C.1.length ∨ 100 < C.2.1.length ∨ 100 < C.2.2.length
theorem ConfIn.cf {w : World} {v : Value} {C : Cf} (h : ConfIn w v C) (hl : ¬ longC C) : ∃ v1 v2 v3, v = .agg #[v1, v2, v3] ∧ CfAt w v1 v2 v3 C := by
  obtain ⟨v1, v2, v3, rfl, h1, h2, h3⟩ := h.parts
  unfold longC at hl
  exact ⟨v1, v2, v3, rfl, h1.at_ (by omega), h2.at_ (by omega), h3.at_ (by omega)⟩
theorem one_row {w : World} {b : Nat} {x y : Int} {t : TypeId} (h : w.heap[b]? = some (.cells #[.int .i64 x, .int .i64 y] t (0, 0))) : RowsAt 2 w (.slice (some ⟨b, 0, none⟩) 1 1) [[x, y]] := by
  refine ⟨_, _, rfl, by simp, by simp, Or.inr ⟨b, 0, rfl, lt_of_block h, fun i hi j hj => ?_⟩⟩
  obtain rfl : i = 0 := by simpa using hi
  rw [cell_of_row w b _ _ _ _ h]
  match j, hj with
  | 0, _ => rfl
  | 1, _ => rfl
/-- A configuration in a variable. -/
structure VarAt (w : World) (b : Nat) (v1 v2 v3 : Value) (C : Cf) : Prop where
  box : CBox w b v1 v2 v3
  cf : CfAt w v1 v2 v3 C
theorem VarAt.below {w w' : World} {b : Nat} {v1 v2 v3 : Value} {C : Cf} (h : VarAt w b v1 v2 v3 C) (hb : Below w.heap.size w w') : VarAt w' b v1 v2 v3 C := ⟨h.box.below hb, h.cf.below hb⟩
theorem VarAt.new {w : World} {v1 v2 v3 : Value} {C : Cf} (h : CfAt w v1 v2 v3 C) : VarAt (w.alloc (.cells #[v1, v2, v3] 26)) w.heap.size v1 v2 v3 C :=
  ⟨CBox.new w _ _ _, h.below ((Below.refl _ _).alloc (Nat.le_refl _) _)⟩
theorem RowsIn.below {k : Nat} {w w' : World} {v : Value} {S : List Row} (h : RowsIn k w v S) (hb : Below w.heap.size w w') : RowsIn k w' v S := by
  obtain ⟨a, c, rfl, hT, hS⟩ := h
  refine ⟨a, c, rfl, hT, ?_⟩
  rcases hS with hS | ⟨b, o, rfl, hlt, hc⟩
  · exact Or.inl hS
  · exact Or.inr ⟨b, o, rfl, Nat.lt_of_lt_of_le hlt hb.size, fun i hi j hj => (hb.cell (p := ⟨b, o + i * k + j, none⟩) hlt).trans (hc i hi j hj)⟩
theorem ConfIn.below {w w' : World} {v : Value} {C : Cf} (h : ConfIn w v C) (hb : Below w.heap.size w w') : ConfIn w' v C := by
  obtain ⟨v1, v2, v3, rfl, h1, h2, h3⟩ := h.parts
  exact ⟨v1, v2, v3, rfl, h1.below hb, h2.below hb, h3.below hb⟩
theorem ConfIn.slices {w : World} {v : Value} {C : Cf} (h : ConfIn w v C) : ∃ a1 n1 m1 a2 n2 m2 a3 n3 m3, v = .agg #[.slice a1 n1 m1, .slice a2 n2 m2, .slice a3 n3 m3] := by
  obtain ⟨v1, v2, v3, rfl, ⟨_, _, rfl, _⟩, ⟨_, _, rfl, _⟩, ⟨_, _, rfl, _⟩⟩ := h.parts
  exact ⟨_, _, _, _, _, _, _, _, _, rfl⟩
theorem ConfIn.at_ {w : World} {v1 v2 v3 : Value} {C : Cf} (h : ConfIn w (.agg #[v1, v2, v3]) C) (hl : ¬ longC C) : CfAt w v1 v2 v3 C := by
  obtain ⟨u1, u2, u3, e, h⟩ := h.cf hl
  simp at e
  obtain ⟨rfl, rfl, rfl⟩ := e
  exact h

end Go.Proofs.Ytepfljfaclakeaa
