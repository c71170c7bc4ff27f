/- Where frames lie, and whose turn it is, as numbers: in lists alone. No condition but those named. -/
import Derived.Test.YtepfljfaclakeaaP7
namespace Go.Proofs.Ytepfljfaclakeaa
open Go.RowKit
set_option maxRecDepth 100000

/-- Sums ahead of a partition's, a channel's frames. -/
def partS (S : List Row) (k : Nat) : Int := ((S.take k).map partF).sum
def chanS (S : List Row) (k : Nat) : Int := ((S.take k).map chanF).sum
theorem partS_succ (S : List Row) (k : Nat) (h : k < S.length) : partS S (k + 1) = partS S k + partF (S.getD k []) := sum_take partF S k h
theorem chanS_succ (S : List Row) (k : Nat) (h : k < S.length) : chanS S (k + 1) = chanS S k + chanF (S.getD k []) := sum_take chanF S k h
theorem sumL_partN (S : List Row) : ∀ k, k ≤ S.length → sumL (partN S k) = partS S k
  | 0, _ => by simp [partN, partS, sumL]
  | k + 1, h => by
    rw [partN_succ, partS_succ S k (by omega), show partN S k ++ [ownAt S k, trapAt S k] = (partN S k ++ [ownAt S k]) ++ [trapAt S k] by simp, sumL_snoc, sumL_snoc, sumL_partN S k (by omega), Int.add_assoc]
    rfl
theorem sumL_app {κ : Type} (L M : List (κ × Int)) : sumL (L ++ M) = sumL L + sumL M := by simp [sumL]
theorem sumL_chanN (S : List Row) : ∀ k, k ≤ S.length → sumL (chanN S k) = chanS S k
  | 0, _ => by simp [chanN, chanS, sumL]
  | k + 1, h => by rw [chanN_succ, chanS_succ S k (by omega), sumL_snoc, sumL_chanN S k (by omega)]; rfl
theorem framesC_sums (C : Cf) : framesC C = partS C.1 C.1.length + chanS C.2.2 C.2.2.length := by
  unfold framesC partS chanS
  rw [List.take_length, List.take_length]
theorem hit_laid : ∀ (s : Int) (L : List OwnE) (k : Int × Int), (∀ y ∈ L, y.1 ≠ k) → hitL k (laidL s L) = none
  | _, [], _, _ => rfl
  | s, x :: L, k, h => by
    unfold hitL
    rw [laidL, List.find?_cons_of_neg (by simpa using h x (by simp))]
    exact hit_laid _ L k fun y hy => h y (by simp [hy])
theorem findR_hit (A : List OwnE) (x : OwnE) (B : List OwnE) (h : ∀ y ∈ A, y.1 ≠ x.1) : findR x.1 (laidL 0 (A ++ x :: B)) = (sumL A, x.2, 0) := by
  have e : hitL x.1 (laidL 0 (A ++ x :: B)) = some (x.1, (sumL A, x.2)) := by
    have h1 : hitL x.1 (laidL 0 (A ++ [x])) = some (x.1, (sumL A, x.2)) := by
      rw [laidL_snoc, Int.zero_add]
      exact hitL_hit (hit_laid 0 A x.1 h) rfl
    exact hitL_pre h1 (laidL_pre 0 ⟨B, by simp⟩)
  unfold findR
  rw [e]
theorem findR_miss (L : List OwnE) (k : Int × Int) (h : ∀ y ∈ L, y.1 ≠ k) : findR k (laidL 0 L) = (0, 0, 2) := by
  unfold findR
  rw [hit_laid 0 L k h]
theorem mem_partN {S : List Row} {n : Nat} {y : OwnE} (h : y ∈ partN S n) : ∃ i, i < n ∧ (y = ownAt S i ∨ y = trapAt S i) := by
  simp only [partN, List.mem_flatMap, List.mem_range, List.mem_cons, List.not_mem_nil, or_false] at h
  exact h
theorem mem_chanN {S : List Row} {n : Nat} {y : OwnE} (h : y ∈ chanN S n) : ∃ i, i < n ∧ y = chanAt S i := by
  simp only [chanN, List.mem_map, List.mem_range] at h
  obtain ⟨i, hi, rfl⟩ := h
  exact ⟨i, hi, rfl⟩
theorem partN_rest (S : List Row) {k n : Nat} (h : k < n) : ∃ B, partN S n = partN S k ++ ownAt S k :: trapAt S k :: B := by
  obtain ⟨B, hB⟩ := partN_pre S (show k + 1 ≤ n from h)
  exact ⟨B, by rw [← hB, partN_succ]; simp⟩
theorem chanN_rest (S : List Row) {k n : Nat} (h : k < n) : ∃ B, chanN S n = chanN S k ++ chanAt S k :: B := by
  obtain ⟨B, hB⟩ := chanN_pre S (show k + 1 ≤ n from h)
  exact ⟨B, by rw [← hB, chanN_succ]; simp⟩
theorem findA_bad {C : Cf} (hk : chk C ≠ 0) (k : Int × Int) : findA C k = (0, 0, chk C) := by unfold findA; rw [if_neg hk]
theorem findA_own {C : Cf} (hk : chk C = 0) (k : Nat) (h : k < C.1.length) : findA C (0, (k : Int)) = (partS C.1 k, (C.1.getD k []).getD 0 0, 0) := by
  unfold findA
  rw [if_pos hk]
  obtain ⟨B, hB⟩ := partN_rest C.1 h
  have e : ownL C = partN C.1 k ++ ownAt C.1 k :: (trapAt C.1 k :: B ++ chanN C.2.2 C.2.2.length) := by rw [ownL, hB]; simp
  rw [e]
  have := findR_hit (partN C.1 k) (ownAt C.1 k) (trapAt C.1 k :: B ++ chanN C.2.2 C.2.2.length) (fun y hy => by
    obtain ⟨i, hi, rfl | rfl⟩ := mem_partN hy
    · intro e; have := (Prod.mk.inj e).2; omega
    · intro e; have := (Prod.mk.inj e).1; omega)
  rw [sumL_partN _ _ (by omega)] at this
  exact this
theorem findA_traps {C : Cf} (hk : chk C = 0) (k : Nat) (h : k < C.1.length) : findA C (1, (k : Int)) = (partS C.1 k + (C.1.getD k []).getD 0 0, ((C.1.getD k []).getD 1 0 + 2) / 3, 0) := by
  unfold findA
  rw [if_pos hk]
  obtain ⟨B, hB⟩ := partN_rest C.1 h
  have e : ownL C = (partN C.1 k ++ [ownAt C.1 k]) ++ trapAt C.1 k :: (B ++ chanN C.2.2 C.2.2.length) := by rw [ownL, hB]; simp
  rw [e]
  have := findR_hit (partN C.1 k ++ [ownAt C.1 k]) (trapAt C.1 k) (B ++ chanN C.2.2 C.2.2.length) (fun y hy => by
    rcases List.mem_append.1 hy with hy | hy
    · obtain ⟨i, hi, rfl | rfl⟩ := mem_partN hy
      · intro e; have := (Prod.mk.inj e).1; omega
      · intro e; have := (Prod.mk.inj e).2; omega
    · simp only [List.mem_singleton] at hy
      subst hy
      intro e; have := (Prod.mk.inj e).1; omega)
  rw [sumL_snoc, sumL_partN _ _ (by omega)] at this
  exact this
theorem findA_chan {C : Cf} (hk : chk C = 0) (k : Nat) (h : k < C.2.2.length) : findA C (2, (k : Int)) = (partS C.1 C.1.length + chanS C.2.2 k, chanF (C.2.2.getD k []), 0) := by
  unfold findA
  rw [if_pos hk]
  obtain ⟨B, hB⟩ := chanN_rest C.2.2 h
  have e : ownL C = (partN C.1 C.1.length ++ chanN C.2.2 k) ++ chanAt C.2.2 k :: B := by rw [ownL, hB]; simp
  rw [e]
  have := findR_hit (partN C.1 C.1.length ++ chanN C.2.2 k) (chanAt C.2.2 k) B (fun y hy => by
    rcases List.mem_append.1 hy with hy | hy
    · obtain ⟨i, hi, rfl | rfl⟩ := mem_partN hy
      · intro e; have := (Prod.mk.inj e).1; omega
      · intro e; have := (Prod.mk.inj e).1; omega
    · obtain ⟨i, hi, rfl⟩ := mem_chanN hy
      intro e; have := (Prod.mk.inj e).2; omega)
  rw [sumL_app, sumL_partN _ _ (Nat.le_refl _), sumL_chanN _ _ (by omega)] at this
  exact this
/-- There is no such one. -/
theorem findA_none {C : Cf} (hk : chk C = 0) (a b : Int) (h1 : a = 0 ∨ a = 1 → ¬ (0 ≤ b ∧ b < C.1.length)) (h2 : a = 2 → ¬ (0 ≤ b ∧ b < C.2.2.length)) : findA C (a, b) = (0, 0, 2) := by
  unfold findA
  rw [if_pos hk]
  refine findR_miss _ _ fun y hy e => ?_
  rcases mem_ownL hy with ⟨i, hi, rfl | rfl⟩ | ⟨i, hi, rfl⟩
  · have e1 := (Prod.mk.inj e).1; have e2 := (Prod.mk.inj e).2
    exact h1 (Or.inl e1.symm) (by omega)
  · have e1 := (Prod.mk.inj e).1; have e2 := (Prod.mk.inj e).2
    exact h1 (Or.inr e1.symm) (by omega)
  · have e1 := (Prod.mk.inj e).1; have e2 := (Prod.mk.inj e).2
    exact h2 e1.symm (by omega)
theorem partS_le {C : Cf} (hm : mayB C = true) (k : Nat) : 0 ≤ partS C.1 k ∧ partS C.1 k ≤ 2400 := by
  obtain ⟨⟨p1, p2⟩, -⟩ := mayB_parts hm
  have h1 := sum_le partF 300 (C.1.take k) (take_mem fun T hT => (partF_le T (p2 T hT)).2.2)
  have h2 : ((C.1.take k).length : Int) * (300 : Nat) ≤ 2400 := by
    have : (C.1.take k).length ≤ 8 := by rw [List.length_take]; omega
    have : ((C.1.take k).length : Int) ≤ 8 := by exact_mod_cast this
    omega
  exact ⟨h1.1, Int.le_trans h1.2 h2⟩
theorem chanS_le {C : Cf} (hm : mayB C = true) (k : Nat) : 0 ≤ chanS C.2.2 k ∧ chanS C.2.2 k ≤ 4800 := by
  obtain ⟨-, c1, c2⟩ := mayB_parts hm
  have h1 := sum_le chanF 300 (C.2.2.take k) (take_mem fun T hT => (chanF_le _ T (c2 T hT)).2.2.2)
  have h2 : ((C.2.2.take k).length : Int) * (300 : Nat) ≤ 4800 := by
    have : (C.2.2.take k).length ≤ 16 := by rw [List.length_take]; omega
    have : ((C.2.2.take k).length : Int) ≤ 16 := by exact_mod_cast this
    omega
  exact ⟨h1.1, Int.le_trans h1.2 h2⟩

/-- The windows of a major frame, tick by tick. -/
def rowL (L : List WinE) : List Int := L.flatMap fun x => List.replicate x.2.toNat x.1
theorem rowL_snoc (L : List WinE) (x : WinE) : rowL (L ++ [x]) = rowL L ++ List.replicate x.2.toNat x.1 := by simp [rowL]
theorem rowL_length (L : List WinE) (h : ∀ x ∈ L, 0 ≤ x.2) : ((rowL L).length : Int) = sumL L := by
  induction L with
  | nil => rfl
  | cons x L ih =>
    have h1 := ih fun y hy => h y (by simp [hy])
    have h2 := h x (by simp)
    have h3 : sumL (x :: L) = x.2 + sumL L := by simp [sumL]
    have h4 : (rowL (x :: L)).length = x.2.toNat + (rowL L).length := by simp [rowL]
    rw [h3, h4, ← h1]
    push_cast
    omega
theorem turnHit_row : ∀ (s : Int) (L : List WinE) (a : Nat), (∀ x ∈ L, 0 ≤ x.2) → (turnHit (s + (a : Int)) (laidL s L)).map (fun x => x.1) = (rowL L)[a]?
  | _, [], _, _ => rfl
  | s, x :: L, a, h => by
    have h2 := h x (by simp)
    have hr : rowL (x :: L) = List.replicate x.2.toNat x.1 ++ rowL L := by simp [rowL]
    rw [hr, laidL]
    unfold turnHit
    by_cases ha : (a : Int) < x.2
    · rw [List.find?_cons_of_pos (by simp only [decide_eq_true_eq]; omega), List.getElem?_append_left (by simp; omega)]
      simp [show a < x.2.toNat by omega]
    · rw [List.find?_cons_of_neg (by simp only [decide_eq_true_eq]; omega), List.getElem?_append_right (by simp; omega)]
      have := turnHit_row (s + x.2) L (a - x.2.toNat) fun y hy => h y (by simp [hy])
      rw [show s + x.2 + ((a - x.2.toNat : Nat) : Int) = s + (a : Int) by omega] at this
      rw [List.length_replicate, ← this]
      rfl
theorem winL_pos {C : Cf} (hm : mayB C = true) : ∀ x ∈ winL C, 0 ≤ x.2 := by
  obtain ⟨-, -, w3⟩ := mayB_wins hm
  intro x hx
  obtain ⟨i, hi, rfl⟩ := mem_winL hx
  have := winB_le _ _ (w3 _ (getD_mem hi))
  show 0 ≤ (C.2.1.getD i []).getD 1 0
  omega
/-- Whose turn it is, off the row. -/
theorem turnA_row {C : Cf} (hk : chk C = 0) (t : Int) : ∃ (a i : Nat), a < (rowL (winL C)).length ∧ (a : Int) = t % (((rowL (winL C)).length : Nat) : Int) ∧ (rowL (winL C))[a]? = some (i : Int) ∧ i < C.2.1.length ∧ turnA C t = ((C.2.1.getD i []).getD 0 0, (i : Int), 0) := by
  have hm := (chk_zero hk).1
  have hl := rowL_length (winL C) (winL_pos hm)
  have hM : majorA C = sumL (winL C) := by unfold majorA; rw [if_pos hk]
  obtain ⟨m1, m2⟩ := sumL_winL hm
  have a0 : 0 ≤ t % sumL (winL C) := Int.emod_nonneg _ (by omega)
  have a1 : t % sumL (winL C) < sumL (winL C) := Int.emod_lt_of_pos _ (by omega)
  obtain ⟨a, ha⟩ := Int.eq_ofNat_of_zero_le a0
  have h1 := turnHit_row 0 (winL C) a (winL_pos hm)
  rw [Int.zero_add] at h1
  have h2 : a < (rowL (winL C)).length := by omega
  rw [List.getElem?_eq_getElem h2, Option.map_eq_some_iff] at h1
  obtain ⟨x, hx, hx1⟩ := h1
  have hmem : x ∈ laidL 0 (winL C) := List.mem_of_find?_eq_some hx
  obtain ⟨A, B, hAB⟩ := List.append_of_mem hmem
  obtain ⟨i, hi, hxi⟩ := laid_window (C := C) (pre := A) (x := x) ⟨B, by rw [hAB]; simp⟩
  refine ⟨a, i, h2, by rw [hl, ha], by rw [List.getElem?_eq_getElem h2, ← hx1, hxi], hi, ?_⟩
  unfold turnA
  rw [if_pos hk, hM, ha, hx]
  unfold turnR
  simp only [hxi]
  rfl
end Go.Proofs.Ytepfljfaclakeaa
