/- The document's ring of layer 19 in memory; its New, Send, Recv, At. Condition: the ring lies in memory. -/
import Derived.Test.YtnapodeiigkebaaIT
namespace Go.Proofs.Ytnapodeiigkebaa
open Go.RowKit
set_option maxRecDepth 100000

/-- A message of the document's. -/
def MsgV (w : World) (u : Value) (L : List Int) : Prop := ∃ g c, u = .slice (some ⟨g, 0, none⟩) L.length c ∧ MsgG w g L
theorem MsgV.one {w : World} {u : Value} {L : List Int} (h : MsgV w u L) : u.oneCell' = true := by obtain ⟨g, c, rfl, _⟩ := h; rfl
theorem MsgV.row {w : World} {u : Value} {L : List Int} (h : MsgV w u L) : RowAt w u L := by obtain ⟨g, c, rfl, h⟩ := h; exact h.rowAt
/-- A slice of slices. -/
def ArrG (w : World) (v : Value) (us : List Value) : Prop := ∃ a c, v = .slice a us.length c ∧ us.length ≤ c ∧ c ≤ maxLen ∧ (a = none → c = 0) ∧ (us = [] ∨ ∃ b o cs, a = some ⟨b, o, none⟩ ∧ w.heap[b]? = some (.cells cs 43 (0, 0)) ∧ ∀ i u, us[i]? = some u → cs[o + i]? = some u)
/-- The document's messages. -/
def LsAt (w : World) (v : Value) (Ls : List (List Int)) : Prop := ∃ P : List (Value × List Int), P.map (·.2) = Ls ∧ (∀ p ∈ P, MsgV w p.1 p.2) ∧ ArrG w v (P.map (·.1))
/-- A block that holds neither words nor slices of words. -/
def OtherG (w : World) (k : Nat) : Prop := ∃ cs t, w.heap[k]? = some (.cells cs t (0, 0)) ∧ t ≠ 57 ∧ t ≠ 43
theorem OtherG.word {w : World} {k j : Nat} {cs : Array Value} (h : OtherG w k) (hj : w.heap[j]? = some (.cells cs 57 (0, 0))) : j ≠ k := by
  obtain ⟨cs', t, h1, h2, _⟩ := h
  exact kind_ne hj h1 (by simp only [kindOf]; intro e; exact h2 (Option.some.inj e).symm)
theorem OtherG.slice {w : World} {k j : Nat} {cs : Array Value} (h : OtherG w k) (hj : w.heap[j]? = some (.cells cs 43 (0, 0))) : j ≠ k := by
  obtain ⟨cs', t, h1, _, h2⟩ := h
  exact kind_ne hj h1 (by simp only [kindOf]; intro e; exact h2 (Option.some.inj e).symm)
theorem MsgV.only {w w' : World} {u : Value} {L : List Int} {B : Nat → Prop} (h : MsgV w u L) (ho : Only w w' B) (hB : ∀ k, B k → OtherG w k) : MsgV w' u L := by
  obtain ⟨g, c, rfl, hm⟩ := h
  exact ⟨g, c, rfl, hm.only ho (fun hb => let ⟨_, h1, _⟩ := hm; (hB g hb).word h1 rfl)⟩
theorem LsAt.only {w w' : World} {v : Value} {Ls : List (List Int)} {B : Nat → Prop} (h : LsAt w v Ls) (ho : Only w w' B) (hB : ∀ k, B k → OtherG w k) : LsAt w' v Ls := by
  obtain ⟨P, h1, h2, a, c, h3, h4, h5, h5', h6⟩ := h
  refine ⟨P, h1, fun p hp => (h2 p hp).only ho hB, a, c, h3, h4, h5, h5', ?_⟩
  rcases h6 with h6 | ⟨b, o, cs, e1, e2, e3⟩
  · exact Or.inl h6
  · exact Or.inr ⟨b, o, cs, e1, ho.kept e2 (fun hb => (hB b hb).slice e2 rfl), e3⟩
theorem LsAt.below {w w' : World} {v : Value} {Ls : List (List Int)} (h : LsAt w v Ls) (hb : Below w.heap.size w w') : LsAt w' v Ls := h.only (B := fun _ => False) (Only.below hb) (fun _ e => e.elim)
theorem LsAt.nil (w : World) : LsAt w (.slice none 0 0) [] := ⟨[], rfl, by simp, none, 0, rfl, Nat.le_refl _, Nat.zero_le _, fun _ => rfl, Or.inl rfl⟩
theorem LsAt.form {w : World} {v : Value} {Ls : List (List Int)} (h : LsAt w v Ls) : ∃ a c, v = .slice a Ls.length c := by
  obtain ⟨P, h1, h2, a, c, h3, _⟩ := h
  exact ⟨a, c, by rw [h3, ← h1, List.length_map, List.length_map]⟩
/-- One of the messages, read. -/
theorem LsAt.at_ {w : World} {a : Option Addr} {n c : Nat} {Ls : List (List Int)} (h : LsAt w (.slice a n c) Ls) (i : Nat) (hi : i < Ls.length) : ∃ b o u, a = some ⟨b, o, none⟩ ∧ w.cell? ⟨b, o + i, none⟩ = some u ∧ MsgV w u (Ls.getD i []) := by
  obtain ⟨P, h1, h2, a', c', h3, h4, h5, h5', h6⟩ := h
  injection h3 with e1 e2 e3
  subst e1
  have hP : i < P.length := by rw [← h1, List.length_map] at hi; exact hi
  obtain ⟨b, o, cs, rfl, e2, e3⟩ := h6.resolve_left (by intro e; rw [List.map_eq_nil_iff] at e; rw [e] at hP; simp at hP)
  refine ⟨b, o, P[i].1, rfl, ?_, ?_⟩
  · rw [cell_of_row w b _ _ _ _ e2]
    exact e3 i _ (by rw [List.getElem?_map, List.getElem?_eq_getElem hP]; rfl)
  · have := h2 P[i] (List.getElem_mem _)
    rw [← h1, List.getD_eq_getElem?_getD, List.getElem?_map, List.getElem?_eq_getElem hP]
    exact this
/-- The cells of the document's ring. -/
def refA (c d out : Nat) (lv : Value) : Array Value := #[.int .i64 (c : Int), .int .i64 (d : Int), lv, .int .i64 (out : Int)]
/-- The document's ring lies at block rb. -/
structure RefAt (w : World) (rb c d out : Nat) (lv : Value) (Ls : List (List Int)) : Prop where
  c1 : 1 ≤ c
  c8 : c ≤ 8
  d8 : d ≤ 8
  lc : Ls.length ≤ c
  o300 : out ≤ 300
  ls : LsAt w lv Ls
  box : w.heap[rb]? = some (.cells (refA c d out lv) 83 (0, 0))
section
variable {w : World} {rb c d out : Nat} {lv : Value} {Ls : List (List Int)} (R : RefAt w rb c d out lv Ls)
include R
theorem RefAt.cap : w.cell? ⟨rb, 0, none⟩ = some (.int .i64 (c : Int)) := by rw [cell_of_row w rb _ _ _ _ R.box]; rfl
theorem RefAt.wid : w.cell? ⟨rb, 1, none⟩ = some (.int .i64 (d : Int)) := by rw [cell_of_row w rb _ _ _ _ R.box]; rfl
theorem RefAt.lst : w.cell? ⟨rb, 2, none⟩ = some lv := by rw [cell_of_row w rb _ _ _ _ R.box]; rfl
theorem RefAt.outs : w.cell? ⟨rb, 3, none⟩ = some (.int .i64 (out : Int)) := by rw [cell_of_row w rb _ _ _ _ R.box]; rfl
theorem RefAt.free (i : Nat) : w.frozen? ⟨rb, i, none⟩ = false := frozen_of_row w rb i _ _ R.box
theorem RefAt.other : OtherG w rb := ⟨_, _, R.box, by decide, by decide⟩
theorem RefAt.only {w' : World} {B : Nat → Prop} (ho : Only w w' B) (hb : ¬ B rb) (hB : ∀ k, B k → OtherG w k) : RefAt w' rb c d out lv Ls := ⟨R.c1, R.c8, R.d8, R.lc, R.o300, R.ls.only ho hB, ho.kept R.box hb⟩
theorem RefAt.below {w' : World} (hb : Below w.heap.size w w') : RefAt w' rb c d out lv Ls := R.only (B := fun _ => False) (Only.below hb) (fun e => e) (fun _ e => e.elim)
end
theorem refTy : RowTy 83 4 := ⟨⟨_, Try.underlying83, rfl⟩, by kernel_rfl⟩
theorem refInfo : (Try.prog.info? 83).map (fun i => (i.zero, i.size)) = some (some (.agg #[.int .i64 0, .int .i64 0, .slice none 0 0, .int .i64 0]), 4) := by kernel_rfl
theorem refZero (w : World) : (zeroValue 83).run Try.prog w = .ok (.agg #[.int .i64 0, .int .i64 0, .slice none 0 0, .int .i64 0]) w := (zero_of_info refInfo).1 w
/-- What a call tells. -/
def MsgN (w : World) (u : Value) (M : List Int) : Prop := (u = .slice none 0 0 ∧ M = []) ∨ MsgV w u M
theorem MsgN.row {w : World} {u : Value} {M : List Int} (h : MsgN w u M) : RowAt w u M := by
  rcases h with ⟨rfl, rfl⟩ | h
  · exact ⟨none, 0, rfl, Or.inl rfl⟩
  · exact h.row
theorem MsgN.form {w : World} {u : Value} {M : List Int} (h : MsgN w u M) : ∃ a c, u = .slice a M.length c := let ⟨a, c, e, _⟩ := h.row; ⟨a, c, e⟩
theorem MsgN.only {w w' : World} {u : Value} {M : List Int} {B : Nat → Prop} (h : MsgN w u M) (ho : Only w w' B) (hB : ∀ k, B k → OtherG w k) : MsgN w' u M := by
  rcases h with h | h
  · exact Or.inl h
  · exact Or.inr (h.only ho hB)
end Go.Proofs.Ytnapodeiigkebaa
