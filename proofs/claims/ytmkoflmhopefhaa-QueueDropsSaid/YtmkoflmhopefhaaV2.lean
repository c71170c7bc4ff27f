/- A queue in memory; the contracts of package queue's isThere, at, find. Condition: the queue lies as New laid it, or there is none, or nobody made it. -/
import Derived.Test.YtmkoflmhopefhaaV1
import Derived.OwnWalk
namespace Go.Proofs.Ytmkoflmhopefhaa
open Go.RowKit
set_option maxRecDepth 100000

/-- A queue's cells: eight places, where the head stands, how many there are, whether it was made. -/
def queV (A : List Int) (h m : Nat) (b : Bool) : Array Value := (intsV A ++ [Value.int .i64 (h : Int), Value.int .i64 (m : Int), Value.bool b]).toArray
theorem queV_get (A : List Int) (h m : Nat) (b : Bool) (hA : A.length = 8) (i : Nat) (hi : i < 8) : (queV A h m b)[i]? = some (.int .i64 (A.getD i 0)) := by
  rw [queV, List.getElem?_toArray, List.getElem?_append_left (by rw [intsV_length, hA]; exact hi), intsV_get A i (by omega)]
theorem queV_head (A : List Int) (h m : Nat) (b : Bool) (hA : A.length = 8) : (queV A h m b)[8]? = some (.int .i64 (h : Int)) := by
  rw [queV, List.getElem?_toArray, List.getElem?_append_right (by rw [intsV_length, hA]; omega), intsV_length, hA]; rfl
theorem queV_many (A : List Int) (h m : Nat) (b : Bool) (hA : A.length = 8) : (queV A h m b)[9]? = some (.int .i64 (m : Int)) := by
  rw [queV, List.getElem?_toArray, List.getElem?_append_right (by rw [intsV_length, hA]; omega), intsV_length, hA]; rfl
theorem queV_made (A : List Int) (h m : Nat) (b : Bool) (hA : A.length = 8) : (queV A h m b)[10]? = some (.bool b) := by
  rw [queV, List.getElem?_toArray, List.getElem?_append_right (by rw [intsV_length, hA]; omega), intsV_length, hA]; rfl
theorem queV_set (A : List Int) (h m : Nat) (b : Bool) (hA : A.length = 8) (i : Nat) (hi : i < 8) (n : Int) : (queV A h m b).setIfInBounds i (.int .i64 n) = queV (A.set i n) h m b := by
  apply Array.ext'
  rw [Array.toList_setIfInBounds]
  simp only [queV]
  rw [List.set_append_left _ _ (by rw [intsV_length, hA]; exact hi)]
  simp [intsV, List.map_set]
theorem queV_setHead (A : List Int) (h m h' : Nat) (b : Bool) (hA : A.length = 8) : (queV A h m b).setIfInBounds 8 (.int .i64 (h' : Int)) = queV A h' m b := by
  apply Array.ext'
  rw [Array.toList_setIfInBounds]
  simp only [queV]
  rw [List.set_append_right _ _ (by rw [intsV_length, hA]; omega), intsV_length, hA]
  rfl
theorem queV_setMany (A : List Int) (h m m' : Nat) (b : Bool) (hA : A.length = 8) : (queV A h m b).setIfInBounds 9 (.int .i64 (m' : Int)) = queV A h m' b := by
  apply Array.ext'
  rw [Array.toList_setIfInBounds]
  simp only [queV]
  rw [List.set_append_right _ _ (by rw [intsV_length, hA]; omega), intsV_length, hA]
  rfl
/-- A queue's cells lie at block b. -/
structure BoxV (w : World) (b : Nat) (A : List Int) (h m : Nat) : Prop where
  len : A.length = 8
  top : h < 8
  many : m ≤ 8
  box : w.heap[b]? = some (.cells (queV A h m true) 38 (0, 0))
section
variable {w : World} {b : Nat} {A : List Int} {h m : Nat} (B : BoxV w b A h m)
include B
theorem BoxV.at_ (i : Nat) (hi : i < 8) : w.cell? ⟨b, i, none⟩ = some (.int .i64 (A.getD i 0)) := by
  rw [cell_of_row w b _ _ _ _ B.box]; exact queV_get A h m true B.len i hi
theorem BoxV.head : w.cell? ⟨b, 8, none⟩ = some (.int .i64 (h : Int)) := by
  rw [cell_of_row w b _ _ _ _ B.box]; exact queV_head A h m true B.len
theorem BoxV.howMany : w.cell? ⟨b, 9, none⟩ = some (.int .i64 (m : Int)) := by
  rw [cell_of_row w b _ _ _ _ B.box]; exact queV_many A h m true B.len
theorem BoxV.made : w.cell? ⟨b, 10, none⟩ = some (.bool true) := by
  rw [cell_of_row w b _ _ _ _ B.box]; exact queV_made A h m true B.len
theorem BoxV.free (i : Nat) : w.frozen? ⟨b, i, none⟩ = false := frozen_of_row w b i _ _ B.box
theorem BoxV.lt : b < w.heap.size := lt_of_block B.box
theorem BoxV.below {w' : World} (hb : Below w.heap.size w w') : BoxV w' b A h m := ⟨B.len, B.top, B.many, below_block hb B.box⟩
theorem BoxV.drewN (n : Nat) : BoxV (w.drewN n) b A h m := ⟨B.len, B.top, B.many, B.box⟩
theorem BoxV.set (i : Nat) (hi : i < 8) (n : Int) : BoxV (w.setCell ⟨b, i, none⟩ (.int .i64 n)) b (A.set i n) h m :=
  ⟨by rw [List.length_set]; exact B.len, B.top, B.many, by rw [heap_setCell_same w b i _ _ _ B.box, queV_set A h m true B.len i hi]⟩
theorem BoxV.setHead (h' : Nat) (hh : h' < 8) : BoxV (w.setCell ⟨b, 8, none⟩ (.int .i64 (h' : Int))) b A h' m :=
  ⟨B.len, hh, B.many, by rw [heap_setCell_same w b 8 _ _ _ B.box, queV_setHead A h m h' true B.len]⟩
theorem BoxV.setMany (m' : Nat) (hm : m' ≤ 8) : BoxV (w.setCell ⟨b, 9, none⟩ (.int .i64 (m' : Int))) b A h m' :=
  ⟨B.len, B.top, hm, by rw [heap_setCell_same w b 9 _ _ _ B.box, queV_setMany A h m m' true B.len]⟩
end
/-- A queue lies at block b. -/
structure QAt (w : World) (b : Nat) (L : List Int) : Prop where
  good : GoodV L
  ex : ∃ A h, Ring A h L ∧ BoxV w b A h L.length
theorem QAt.below {w w' : World} {b : Nat} {L : List Int} (q : QAt w b L) (hb : Below w.heap.size w w') : QAt w' b L := ⟨q.good, let ⟨A, h, r, B⟩ := q.ex; ⟨A, h, r, B.below hb⟩⟩
theorem QAt.lt {w : World} {b : Nat} {L : List Int} (q : QAt w b L) : b < w.heap.size := let ⟨_, _, _, B⟩ := q.ex; B.lt
theorem QAt.block {w : World} {b : Nat} {L : List Int} (q : QAt w b L) : ∃ cs, w.heap[b]? = some (.cells cs 38 (0, 0)) := let ⟨_, _, _, B⟩ := q.ex; ⟨_, B.box⟩
theorem QAt.kept {w w' : World} {b : Nat} {L : List Int} {r : Option Nat} (q : QAt w b L) (hg : w.grownBy w' r) (hne : some b ≠ r) : QAt w' b L :=
  ⟨q.good, let ⟨A, h, r, B⟩ := q.ex; ⟨A, h, r, B.len, B.top, B.many, (hg.block b B.lt hne).trans B.box⟩⟩
/-- No queue: none is there, or nobody made it. -/
def NoQ (w : World) (p : Option Addr) : Prop := p = none ∨ ∃ b, p = some ⟨b, 0, none⟩ ∧ w.cell? ⟨b, 10, none⟩ = some (.bool false)

theorem isThere_someV (b : Nat) (m : Bool) (w : World) (h : w.cell? ⟨b, 10, none⟩ = some (.bool m)) : Calls Try.prog 22 #[.pointer (some ⟨b, 0, none⟩)] w fun e w' => e = .returned (.bool m) ∧ w = w' := by
  go_enter Try.func22, Try.ntmps22
  go_wp2
  go_ret
  exact ⟨rfl, rfl⟩
theorem isThere_nilV (w : World) : Calls Try.prog 22 #[.pointer none] w fun e w' => e = .returned (.bool false) ∧ w = w' := by
  go_enter Try.func22, Try.ntmps22
  go_wp2
  go_ret
  exact ⟨rfl, rfl⟩
theorem isThere_noV (p : Option Addr) (w : World) (h : NoQ w p) : Calls Try.prog 22 #[.pointer p] w fun e w' => e = .returned (.bool false) ∧ w = w' := by
  rcases h with rfl | ⟨b, rfl, k⟩
  · exact isThere_nilV w
  · exact isThere_someV b false w k

set_option maxHeartbeats 400000 in
/-- The place of the number that stands so many behind the head. -/
theorem at_okV (b h i k : Nat) (w : World) (hc : w.cell? ⟨b, 8, none⟩ = some (.int .i64 (h : Int))) (hh : h < 8) (hi : i < 1000) (hk : (h + i) % 8 = k) : Calls Try.prog 23 #[.pointer (some ⟨b, 0, none⟩), .int .i64 (i : Int)] w fun e w' => e = .returned (.pointer (some ⟨b, k, none⟩)) ∧ ∃ m, w' = w.drewN m := by
  have hm : ((h : Int) + (i : Int)).tmod 8 = (k : Int) := by rw [Int.tmod_eq_emod_of_nonneg (by omega)]; omega
  have hk8 : k < 8 := by omega
  go_enter Try.func23, Try.ntmps23
  go_wp2_with fail
  go_quiet (fail)
  go_wp2
  go_ret
  exact ⟨rfl, _, rfl⟩

theorem find_no (p : Option Addr) (n : Int) (w : World) (h : NoQ w p) : Calls Try.prog 24 #[.pointer p, .int .i64 n] w fun e w' => e = .returned (.tuple #[.int .i64 0, .int .i64 1]) ∧ w = w' := by
  have H := Lib.hid h
  clear h
  go_enter Try.func24, Try.ntmps24
  go_wp2_with (go_at_call 22; refine (isThere_noV p _ H.out).mono ?_; rintro e w' ⟨rfl, rfl⟩)
  go_ret2
  exact ⟨rfl, rfl⟩
theorem find_bad (b : Nat) (n : Int) (w : World) (h : w.cell? ⟨b, 10, none⟩ = some (.bool true)) (hn : n < 1 ∨ (1 ≤ n ∧ 8 < n)) : Calls Try.prog 24 #[.pointer (some ⟨b, 0, none⟩), .int .i64 n] w fun e w' => e = .returned (.tuple #[.int .i64 0, .int .i64 2]) ∧ w = w' := by
  have H := Lib.hid h
  clear h
  rcases hn with h1 | ⟨h1, h2⟩
  · have d1 : decide (n < 1) = true := decide_eq_true h1
    go_enter Try.func24, Try.ntmps24
    go_wp2_with (go_at_call 22; refine (isThere_someV b true _ H.out).mono ?_; rintro e w' ⟨rfl, rfl⟩)
    go_ret2
    exact ⟨rfl, rfl⟩
  · have d1 : decide (n < 1) = false := decide_eq_false (by omega)
    have d2 : decide (8 < n) = true := decide_eq_true h2
    go_enter Try.func24, Try.ntmps24
    go_wp2_with (go_at_call 22; refine (isThere_someV b true _ H.out).mono ?_; rintro e w' ⟨rfl, rfl⟩)
    go_ret2
    exact ⟨rfl, rfl⟩
set_option maxHeartbeats 1000000 in
theorem find_ok (b : Nat) (A : List Int) (h : Nat) (L : List Int) (n : Int) (w : World) (r : Ring A h L) (B : BoxV w b A h L.length) (hn : 1 ≤ n ∧ n ≤ 8) : Calls Try.prog 24 #[.pointer (some ⟨b, 0, none⟩), .int .i64 n] w fun e w' => ∃ k : Nat, e = .returned (.tuple #[.int .i64 (k : Int), .int .i64 0]) ∧ FoundV L n k ∧ ∃ m, w' = w.drewN m := by
  have d1 : decide (n < 1) = false := decide_eq_false (by omega)
  have d2 : decide (8 < n) = false := decide_eq_false (by omega)
  have BX := Lib.hid B
  have R := Lib.hid r
  obtain ⟨m, hm⟩ : ∃ m, m = L.length := ⟨_, rfl⟩
  rw [← hm] at BX
  have hm8 : m ≤ 8 := BX.out.many
  have HM := Lib.hid hm
  clear r B hm
  go_enter Try.func24, Try.ntmps24
  go_wp2_with (go_at_call 22; refine (isThere_someV b true _ BX.out.made).mono ?_; rintro e w' ⟨rfl, rfl⟩)
  obtain ⟨W, hW⟩ : ∃ W, W = w := ⟨_, rfl⟩
  rw [← hW] at BX
  have HW := Lib.hid hW
  clear hW
  go_loopw [6] (fun i wr => ∃ k : Nat, i = .int .i64 (k : Int) ∧ k ≤ m ∧ n ∉ L.take k ∧ ∃ q, wr = W.drewN q) (fun i _ => m - (intOf i).toNat)
  case atStart => exact ⟨0, rfl, Nat.zero_le _, by simp, 0, HW.out.symm⟩
  case round =>
    obtain ⟨k, rfl, hk, hno, q, rfl⟩ := hrel
    have NO := Lib.hid hno
    have cm := (BX.out.drewN q).howMany
    have ch := Lib.hid (BX.out.drewN q).head
    clear hno
    by_cases hlt : k < m
    · obtain ⟨z, hz⟩ : ∃ z, (h + k) % 8 = z := ⟨_, rfl⟩
      have AT := Lib.hid (at_okV b h k z (W.drewN q) ch.out BX.out.top (by omega) hz)
      have ck := BX.out.at_ z (by omega)
      have hx := R.out.at_ k (by have := HM.out; omega)
      rw [hz] at hx
      rw [hx] at ck
      have TS := take_succV L k n (by have := HM.out; omega)
      obtain ⟨x, hX⟩ : ∃ x, x = L.getD k 0 := ⟨_, rfl⟩
      rw [← hX] at ck TS
      have CK := Lib.hid ck
      have HX := Lib.hid hX
      have TS := Lib.hid TS
      clear hz ck hx hX
      by_cases he : x = n
      · subst he
        go_wp2_with (go_at_call 23; refine AT.out.mono ?_; rintro e w' ⟨rfl, q2, rfl⟩; have ck : (W.drewN (q + q2)).cell? ⟨b, z, none⟩ = some (.int .i64 x) := CK.out)
        go_ret2
        exact ⟨k, rfl, ⟨by have := HM.out; omega, NO.out, fun _ => HX.out.symm⟩, q + q2, by rw [← HW.out]⟩
      · have hb : (x != n) = true := by simpa using he
        have hb2 : (x == n) = false := by simpa using he
        have HE := Lib.hid he
        clear he
        go_wp2_with (go_at_call 23; refine AT.out.mono ?_; rintro e w' ⟨rfl, q2, rfl⟩; have ck : (W.drewN (q + q2)).cell? ⟨b, z, none⟩ = some (.int .i64 x) := CK.out)
        go_roundw
        case rel => exact ⟨k + 1, by go_num, by omega, fun hh => by
          rcases TS.out.1 hh with hh | hh
          · exact NO.out hh
          · exact HE.out hh, q + q2, by simp⟩
        case measure => simp [intOf]; omega
    · obtain rfl : k = m := by omega
      go_wp2
      go_ret2
      exact ⟨k, rfl, ⟨by have := HM.out; omega, NO.out, fun h => by have := HM.out; omega⟩, q, by rw [← HW.out]⟩
end Go.Proofs.Ytmkoflmhopefhaa
