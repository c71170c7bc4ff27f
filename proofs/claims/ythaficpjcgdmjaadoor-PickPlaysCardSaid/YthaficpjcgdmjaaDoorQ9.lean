/- Rows of numbers in memory, and the contracts of the document's own Has, Same, New, layer 8. Condition: the rows lie in memory. -/
import Derived.Test.YthaficpjcgdmjaaDoorQ8
namespace Go.Proofs.YthaficpjcgdmjaaDoor
open Go.RowKit
set_option maxRecDepth 100000

/-- A slice of numbers. -/
def IRow (w : World) (v : Value) (L : List Nat) : Prop := (v = .slice none 0 0 ∧ L = []) ∨ ∃ b o c, v = .slice (some ⟨b, o, none⟩) L.length c ∧ L.length ≤ c ∧ c ≤ maxLen ∧ b < w.heap.size ∧ ∀ i, i < L.length → w.cell? ⟨b, o + i, none⟩ = some (.int .i64 ((L.getD i 0 : Nat) : Int))
theorem IRow.nil (w : World) : IRow w (.slice none 0 0) [] := Or.inl ⟨rfl, rfl⟩
theorem IRow.below {w w' : World} {v : Value} {L : List Nat} (h : IRow w v L) (hb : Below w.heap.size w w') : IRow w' v L := by
  rcases h with h | ⟨b, o, c, rfl, h1, h2, h3, h4⟩
  · exact Or.inl h
  · exact Or.inr ⟨b, o, c, rfl, h1, h2, Nat.lt_of_lt_of_le h3 hb.size, fun i hi => (hb.cell (p := ⟨b, o + i, none⟩) h3).trans (h4 i hi)⟩
/-- The same, where all but one block, which is none of the row's, is as it was. -/
theorem IRow.open_ {w : World} {v : Value} {L : List Nat} (h : IRow w v L) : ∃ a c, v = .slice a L.length c ∧ ∀ k, k < L.length → ∃ b o, a = some ⟨b, o, none⟩ ∧ b < w.heap.size ∧ ∀ i, i < L.length → w.cell? ⟨b, o + i, none⟩ = some (.int .i64 ((L.getD i 0 : Nat) : Int)) := by
  rcases h with ⟨rfl, rfl⟩ | ⟨b, o, c, rfl, _, _, h3, h4⟩
  · exact ⟨none, 0, rfl, fun k hk => absurd hk (Nat.not_lt_zero _)⟩
  · exact ⟨_, c, rfl, fun k _ => ⟨b, o, rfl, h3, h4⟩⟩
theorem natsV_get (L : List Nat) (i : Nat) (h : i < L.length) : (natsV L)[i]? = some (.int .i64 ((L.getD i 0 : Nat) : Int)) := by
  simp [natsV, h]
theorem own_irow {w : World} {base : Nat} {e : TypeId} {v : Value} {L : List Nat} (h : w.ownsRow base e 1 v L.length (natsV L)) : IRow w v L := by
  have h' := h
  rcases h.2 with ⟨rfl, h0⟩ | ⟨g, cap, cur, rfl, hb, hg, h1, h2, _⟩
  · exact Or.inl ⟨rfl, List.eq_nil_of_length_eq_zero h0⟩
  · refine Or.inr ⟨g, 0, cap, rfl, h1, h2, lt_of_block hg, fun i hi => ?_⟩
    have := h'.cells (g := g) rfl i _ (natsV_get L i hi)
    rwa [Addr.add_mid] at this
theorem getD_mem {L : List Nat} {i : Nat} (h : i < L.length) : L.getD i 0 ∈ L := by
  rw [List.getD_eq_getElem?_getD, List.getElem?_eq_getElem h]; exact List.getElem_mem _
theorem mem_take_succ (L : List Nat) (k n : Nat) (h : k < L.length) : n ∈ L.take (k + 1) ↔ n ∈ L.take k ∨ L.getD k 0 = n := by
  rw [List.take_succ_eq_append_getElem h, List.mem_append, List.mem_singleton, List.getD_eq_getElem?_getD, List.getElem?_eq_getElem h]
  constructor
  · rintro (x | x)
    · exact Or.inl x
    · exact Or.inr x.symm
  · rintro (x | x)
    · exact Or.inl x
    · exact Or.inr x.symm

/-- Is the number one of the row's? -/
def inL (L : List Nat) (n : Int) : Bool := decide (0 ≤ n) && decide (n.toNat ∈ L)
theorem inL_no (L : List Nat) (n : Int) : inL L n = false ↔ ∀ m ∈ L, (m : Int) ≠ n := by
  rw [inL, ← Bool.not_eq_true, Bool.and_eq_true, decide_eq_true_eq, decide_eq_true_eq]
  constructor
  · intro h m hm e
    exact h ⟨by omega, by rw [← e]; simpa using hm⟩
  · rintro h ⟨h1, h2⟩
    exact h _ h2 (by omega)
theorem inL_yes (L : List Nat) (m : Nat) (h : m ∈ L) : inL L (m : Int) = true := by simp [inL, h]
theorem inL_has (L : List Nat) (n : Int) (h : Good L) : hasB' L n = inL L n := by
  rw [Bool.eq_iff_iff]
  simp only [hasB', inL, Bool.and_eq_true, decide_eq_true_eq, numB_iff]
  constructor
  · rintro ⟨⟨h1, _⟩, h2⟩; exact ⟨h1, h2⟩
  · rintro ⟨h1, h2⟩; exact ⟨⟨h1, by have := h.top _ h2; omega⟩, h2⟩

set_option maxHeartbeats 1000000 in
theorem rhas_ok (L : List Nat) (v : Value) (n : Int) (w : World) (h : IRow w v L) (hl : L.length ≤ 2000) : Calls Tryd.prog 18 #[v, .int .i64 n] w fun e w' => e = .returned (.bool (inL L n)) ∧ w = w' := by
  obtain ⟨a, c, rfl, hc⟩ := h.open_
  have HC := Lib.hid hc
  obtain ⟨m, hm⟩ : ∃ m, m = L.length := ⟨_, rfl⟩
  rw [← hm] at hl ⊢
  have HM := Lib.hid hm
  clear h hc hm
  go_enter Tryd.func18, Tryd.ntmps18
  go_wp2_with fail
  obtain ⟨W, hW⟩ : ∃ W, W = w := ⟨_, rfl⟩
  rw [← hW] at HC
  have HW := Lib.hid hW
  clear hW
  go_loopw [5] (fun i wr => ∃ k : Nat, i = .int .i64 (k : Int) ∧ k ≤ m ∧ (∀ x ∈ L.take k, (x : Int) ≠ n) ∧ W = wr) (fun i _ => m - (intOf i).toNat)
  case atStart => exact ⟨0, rfl, Nat.zero_le _, by simp, HW.out⟩
  case round =>
    obtain ⟨k, rfl, hk, hno, rfl⟩ := hrel
    have NO := Lib.hid hno
    clear hno
    by_cases hlt : k < m
    · obtain ⟨b, o, rfl, _, hcell⟩ := HC.out k (by have := HM.out; omega)
      have ck := hcell k (by have := HM.out; omega)
      have hmt := mem_take_succ L k
      obtain ⟨x, hx⟩ : ∃ x, x = L.getD k 0 := ⟨_, rfl⟩
      rw [← hx] at ck
      have HX := Lib.hid hx
      have HMT := Lib.hid hmt
      clear hcell hx hmt
      by_cases he : (x : Int) = n
      · have hb : ((x : Int) == n) = true := by simp [he]
        go_wp2
        go_ret
        exact ⟨by rw [← he, inL_yes L x (by rw [HX.out]; exact getD_mem (by have := HM.out; omega))]; rfl, HW.out.symm⟩
      · have hb : ((x : Int) == n) = false := by simp [he]
        have HE := Lib.hid he
        clear he
        go_wp2
        go_roundw
        case rel => exact ⟨k + 1, by go_num, by omega, fun y hy => by
          rcases (HMT.out y (by have := HM.out; omega)).1 hy with hy | hy
          · exact NO.out y hy
          · rw [← hy, ← HX.out]; exact HE.out, trivial⟩
        case measure => simp [intOf]; omega
    · obtain rfl : k = m := by omega
      have hno := NO.out
      rw [HM.out, List.take_length] at hno
      have R := Lib.hid ((inL_no L n).2 hno)
      clear hno hlt
      go_wp2
      go_ret
      exact ⟨by rw [R.out]; rfl, HW.out.symm⟩

set_option maxHeartbeats 1000000 in
theorem rsame_ok (L : List Nat) (v1 v2 : Value) (w : World) (h1 : IRow w v1 L) (h2 : IRow w v2 L) (hl : L.length ≤ 2000) : Calls Tryd.prog 19 #[v1, v2] w fun e w' => e = .returned (.bool true) ∧ Below w.heap.size w w' := by
  obtain ⟨a, c, rfl, hc⟩ := h1.open_
  obtain ⟨a', c', rfl, hc'⟩ := h2.open_
  have HC := Lib.hid hc
  have HC' := Lib.hid hc'
  obtain ⟨m, hm⟩ : ∃ m, m = L.length := ⟨_, rfl⟩
  rw [← hm] at hl ⊢
  have HM := Lib.hid hm
  clear h1 h2 hc hc' hm
  go_enter Tryd.func19, Tryd.ntmps19
  go_wp2_with fail
  obtain ⟨W, hW⟩ : ∃ W, W = w := ⟨_, rfl⟩
  rw [← hW] at HC HC'
  have HW := Lib.hid hW
  clear hW
  go_loopw [5] (fun i wr => ∃ k : Nat, i = .int .i64 (k : Int) ∧ k ≤ m ∧ Below W.heap.size W wr) (fun i _ => m - (intOf i).toNat)
  case atStart => exact ⟨0, rfl, Nat.zero_le _, by rw [HW.out]; exact Below.refl _ _⟩
  case round =>
    obtain ⟨k, rfl, hk, hb⟩ := hrel
    have B := Lib.hid hb
    by_cases hlt : k < m
    · obtain ⟨b, o, rfl, hbl, hcell⟩ := HC.out k (by have := HM.out; omega)
      obtain ⟨b', o', rfl, hbl', hcell'⟩ := HC'.out k (by have := HM.out; omega)
      have ck := (hb.cell (p := ⟨b, o + k, none⟩) hbl).trans (hcell k (by have := HM.out; omega))
      have ck' := (hb.cell (p := ⟨b', o' + k, none⟩) hbl').trans (hcell' k (by have := HM.out; omega))
      generalize L.getD k 0 = x at ck ck'
      clear hcell hcell' hb
      go_wp2_with fail
      go_quiet (fail)
      go_wp2
      go_roundw
      case rel => exact ⟨k + 1, by go_num, by omega, below_drewN B.out _⟩
      case measure => simp [intOf]; omega
    · obtain rfl : k = m := by omega
      clear hb
      go_wp2
      go_ret
      exact ⟨rfl, by have := B.out; rwa [HW.out] at this⟩
end Go.Proofs.YthaficpjcgdmjaaDoor
