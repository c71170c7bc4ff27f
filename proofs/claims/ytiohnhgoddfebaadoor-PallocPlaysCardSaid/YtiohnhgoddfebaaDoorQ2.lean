/- The contracts of package pick's isThere, isNumber, place. Condition: the set lies as New laid it, or there is none, or nobody made it. -/
import Derived.Test.YtiohnhgoddfebaaDoorM5
import Derived.Test.YtiohnhgoddfebaaDoorQ1
import Derived.Laws.Bits64b
import Derived.OwnWalk
import Derived.Laws.BitsAllLaws
namespace Go.Proofs.YtiohnhgoddfebaaDoor
open Go.RowKit
set_option maxRecDepth 100000

/-- Words, as cells. -/
def bitsV (L : List Nat) : List Value := (List.range 16).map fun i => .int .u64 (word L i : Int)
theorem bitsV_length (L : List Nat) : (bitsV L).length = 16 := by simp [bitsV]
theorem bitsV_get (L : List Nat) (i : Nat) (h : i < 16) : (bitsV L)[i]? = some (.int .u64 (word L i : Int)) := by
  simp [bitsV, h]
theorem bitsV_set (L K : List Nat) (k : Nat) (x : Nat) (hk : word K k = x) (ho : ∀ i, i ≠ k → word K i = word L i) : (bitsV L).set k (.int .u64 (x : Int)) = bitsV K := by
  apply List.ext_getElem?
  intro i
  rw [List.getElem?_set]
  by_cases h : i < 16
  · rw [bitsV_get K i h, bitsV_length]
    by_cases hik : k = i
    · subst hik; rw [if_pos rfl, if_pos h, hk]
    · rw [if_neg hik, bitsV_get L i h, ho i (fun e => hik e.symm)]
  · have h1 : (bitsV L)[i]? = none := List.getElem?_eq_none (by rw [bitsV_length]; omega)
    have h2 : (bitsV K)[i]? = none := List.getElem?_eq_none (by rw [bitsV_length]; omega)
    rw [h1, h2, bitsV_length]
    split
    · rw [if_neg (by omega)]
    · rfl
/-- A set's cells. -/
def setV (L : List Nat) (m : Bool) : Array Value := (bitsV L ++ [Value.bool m]).toArray
theorem setV_get (L : List Nat) (m : Bool) (i : Nat) (h : i < 16) : (setV L m)[i]? = some (.int .u64 (word L i : Int)) := by
  rw [setV, List.getElem?_toArray, List.getElem?_append_left (by rw [bitsV_length]; exact h), bitsV_get L i h]
theorem setV_made (L : List Nat) (m : Bool) : (setV L m)[16]? = some (.bool m) := by
  rw [setV, List.getElem?_toArray, List.getElem?_append_right (by rw [bitsV_length]; exact Nat.le_refl _), bitsV_length]; rfl
theorem set_word (L K : List Nat) (m : Bool) (k x : Nat) (hk : k < 16) (h : word K k = x) (ho : ∀ i, i ≠ k → word K i = word L i) : (setV L m).setIfInBounds k (.int .u64 (x : Int)) = setV K m := by
  apply Array.ext'
  rw [Array.toList_setIfInBounds]
  simp only [setV]
  rw [List.set_append_left _ _ (by rw [bitsV_length]; exact hk), bitsV_set L K k x h ho]
/-- A set lies at block b. -/
structure SetAt (w : World) (b : Nat) (L : List Nat) : Prop where
  good : Good L
  box : w.heap[b]? = some (.cells (setV L true) 109 (0, 0))
/-- No set: none is there, or nobody made it. -/
def NoSet (w : World) (p : Option Addr) : Prop := p = none ∨ ∃ b, p = some ⟨b, 0, none⟩ ∧ w.heap[b]? = some (.cells (setV [] false) 109 (0, 0))
theorem SetAt.below {w w' : World} {b : Nat} {L : List Nat} (h : SetAt w b L) (hb : Below w.heap.size w w') : SetAt w' b L := ⟨h.good, below_block hb h.box⟩
theorem SetAt.lt {w : World} {b : Nat} {L : List Nat} (h : SetAt w b L) : b < w.heap.size := lt_of_block h.box
theorem SetAt.kept {w w' : World} {b : Nat} {L : List Nat} {r : Option Nat} (h : SetAt w b L) (hg : w.grownBy w' r) (hne : some b ≠ r) : SetAt w' b L := ⟨h.good, (hg.block b h.lt hne).trans h.box⟩
theorem NoSet.below {w w' : World} {p : Option Addr} (h : NoSet w p) (hb : Below w.heap.size w w') : NoSet w' p := by
  rcases h with h | ⟨b, h, k⟩
  · exact Or.inl h
  · exact Or.inr ⟨b, h, below_block hb k⟩
theorem SetAt.cell {w : World} {b : Nat} {L : List Nat} (h : SetAt w b L) (i : Nat) (hi : i < 16) : w.cell? ⟨b, i, none⟩ = some (.int .u64 (word L i : Int)) := by
  rw [cell_of_row w b _ _ _ _ h.box]; exact setV_get L true i hi
theorem SetAt.made {w : World} {b : Nat} {L : List Nat} (h : SetAt w b L) : w.cell? ⟨b, 16, none⟩ = some (.bool true) := by
  rw [cell_of_row w b _ _ _ _ h.box]; exact setV_made L true
theorem SetAt.free {w : World} {b : Nat} {L : List Nat} (h : SetAt w b L) (i : Nat) : w.frozen? ⟨b, i, none⟩ = false := frozen_of_row w b i _ _ h.box

theorem isNumber_any (n : Int) (w : World) : Calls Tryd.prog 60 #[.int .i64 n] w fun e w' => e = .returned (.bool (decide (0 ≤ n) && decide (n < 1024))) ∧ w = w' := by
  by_cases h0 : 0 ≤ n
  · have d0 : decide (0 ≤ n) = true := decide_eq_true h0
    by_cases h1 : n < 1024
    · have d1 : decide (n < 1024) = true := decide_eq_true h1
      go_enter Tryd.func60, Tryd.ntmps60
      go_wp2
      go_ret
      exact ⟨by rw [d0, d1]; rfl, rfl⟩
    · have d1 : decide (n < 1024) = false := decide_eq_false h1
      go_enter Tryd.func60, Tryd.ntmps60
      go_wp2
      go_ret
      exact ⟨rfl, rfl⟩
  · have d0 : decide (0 ≤ n) = false := decide_eq_false h0
    go_enter Tryd.func60, Tryd.ntmps60
    go_wp2
    go_ret
    exact ⟨rfl, rfl⟩
theorem isNumber_is (n : Int) (b : Bool) (h : (decide (0 ≤ n) && decide (n < 1024)) = b) (w : World) : Calls Tryd.prog 60 #[.int .i64 n] w fun e w' => e = .returned (.bool b) ∧ w = w' := by
  have := isNumber_any n w
  rwa [h] at this

theorem isThere_some (b : Nat) (m : Bool) (w : World) (h : w.cell? ⟨b, 16, none⟩ = some (.bool m)) : Calls Tryd.prog 53 #[.pointer (some ⟨b, 0, none⟩)] w fun e w' => e = .returned (.bool m) ∧ w = w' := by
  go_enter Tryd.func53, Tryd.ntmps53
  go_wp2
  go_ret
  exact ⟨rfl, rfl⟩
theorem isThere_nil (w : World) : Calls Tryd.prog 53 #[.pointer none] w fun e w' => e = .returned (.bool false) ∧ w = w' := by
  go_enter Tryd.func53, Tryd.ntmps53
  go_wp2
  go_ret
  exact ⟨rfl, rfl⟩
theorem isThere_no (p : Option Addr) (w : World) (h : NoSet w p) : Calls Tryd.prog 53 #[.pointer p] w fun e w' => e = .returned (.bool false) ∧ w = w' := by
  rcases h with rfl | ⟨b, rfl, k⟩
  · exact isThere_nil w
  · exact isThere_some b false w (by rw [cell_of_row w b _ _ _ _ k]; exact setV_made [] false)

theorem place_no (p : Option Addr) (n : Int) (w : World) (h : NoSet w p) : Calls Tryd.prog 57 #[.pointer p, .int .i64 n] w fun e w' => e = .returned (.tuple #[.pointer none, .int .u64 0, .int .i64 1]) ∧ w = w' := by
  have H := Lib.hid h
  clear h
  go_enter Tryd.func57, Tryd.ntmps57
  go_wp2_with (go_at_call 53; refine (isThere_no p _ H.out).mono ?_; rintro e w' ⟨rfl, rfl⟩)
  go_ret3
  exact ⟨rfl, rfl⟩
theorem place_bad (b : Nat) (L : List Nat) (n : Int) (w : World) (h : SetAt w b L) (hn : ¬ (0 ≤ n ∧ n < 1024)) : Calls Tryd.prog 57 #[.pointer (some ⟨b, 0, none⟩), .int .i64 n] w fun e w' => e = .returned (.tuple #[.pointer none, .int .u64 0, .int .i64 2]) ∧ w = w' := by
  have H := Lib.hid h
  have HN : Hid ((decide (0 ≤ n) && decide (n < 1024)) = false) := Lib.hid (by rw [← Bool.not_eq_true]; simpa using hn)
  clear h hn
  go_enter Tryd.func57, Tryd.ntmps57
  go_wp2_with (first
    | (go_at_call 53; refine (isThere_some b true _ H.out.made).mono ?_; rintro e w' ⟨rfl, rfl⟩)
    | (go_at_call 60; refine (isNumber_is n _ HN.out _).mono ?_; rintro e w' ⟨rfl, rfl⟩))
  go_ret3
  exact ⟨rfl, rfl⟩
theorem place_ok (b : Nat) (L : List Nat) (n : Nat) (w : World) (h : SetAt w b L) (hn : n < 1024) : Calls Tryd.prog 57 #[.pointer (some ⟨b, 0, none⟩), .int .i64 n] w fun e w' => e = .returned (.tuple #[.pointer (some ⟨b, n / 64, none⟩), .int .u64 ((2 ^ (n % 64) : Nat) : Int), .int .i64 0]) ∧ ∃ m, w' = w.drewN m := by
  have H := Lib.hid h
  have HN : Hid ((decide (0 ≤ (n : Int)) && decide ((n : Int) < 1024)) = true) := Lib.hid (by rw [Bool.and_eq_true]; exact ⟨by simp, by simp; omega⟩)
  have hd : (n : Int).tdiv 64 = ((n / 64 : Nat) : Int) := by rw [Int.tdiv_eq_ediv_of_nonneg (by omega)]; omega
  have hm : (n : Int).tmod 64 = ((n % 64 : Nat) : Int) := by rw [Int.tmod_eq_emod_of_nonneg (by omega)]; omega
  have hk : n / 64 < 16 := by omega
  have hj : n % 64 < 64 := by omega
  have hp : IntKind.u64.wrap (2 ^ (n % 64)) = ((2 ^ (n % 64) : Nat) : Int) := by
    have : 2 ^ (n % 64) < 2 ^ 64 := Nat.pow_lt_pow_of_lt (by decide) hj
    have e : ((2 : Int) ^ (n % 64)) = ((2 ^ (n % 64) : Nat) : Int) := by simp
    rw [e, IntKind.wrap_u64]
    generalize 2 ^ (n % 64) = x at *
    omega
  generalize n / 64 = k at *
  generalize n % 64 = j at *
  clear h
  go_enter Tryd.func57, Tryd.ntmps57
  go_wp2_with (first
    | (go_at_call 53; refine (isThere_some b true _ H.out.made).mono ?_; rintro e w' ⟨rfl, rfl⟩)
    | (go_at_call 60; refine (isNumber_is n _ HN.out _).mono ?_; rintro e w' ⟨rfl, rfl⟩))
  go_quiet (fail)
  go_wp2
  go_ret3
  exact ⟨rfl, _, rfl⟩
end Go.Proofs.YtiohnhgoddfebaaDoor
