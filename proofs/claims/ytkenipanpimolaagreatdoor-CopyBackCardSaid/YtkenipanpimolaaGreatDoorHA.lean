/- Texts of mine, joined: U1 U2 U3 U4 U5 U6 U7 U8. What each says and under which conditions stands at its head, below. -/
import Derived.Test.YtkenipanpimolaaGreatDoorGA0
import Derived.Laws.OwnMore
import Derived.Deep.RegionHeld3
import Derived.Deep.AppendLies
import Derived.Deep.RegionLaw
import Derived.Great.BuildSlice
/- Containers as rising lists: what is left of one, what each call answers and leaves. Nothing of a program. -/
namespace Go.Proofs.YtkenipanpimolaaGreatDoor
open Go.RowKit
set_option maxRecDepth 100000

/-- A container: its number, the one that it is carved from, its quota, what is used. -/
abbrev Nd := Int × Int × Int × Int
/-- What is carved from one. -/
def sumUp (id : Int) : List Nd → Int
  | [] => 0
  | n :: r => (if n.2.1 = id then n.2.2.1 else 0) + sumUp id r
def atN (id : Int) : List Nd → Option Nd
  | [] => none
  | n :: r => if n.1 = id then some n else atN id r
def posN (id : Int) : List Nd → Nat
  | [] => 0
  | n :: r => if n.1 = id then 0 else posN id r + 1
def leftNU (L : List Nd) (n : Nd) : Int := n.2.2.1 - n.2.2.2 - sumUp n.1 L
def leftO (L : List Nd) : Option Nd → Int
  | none => 0
  | some n => leftNU L n
def leftL (L : List Nd) (id : Int) : Int := leftO L (atN id L)
def fitBU (id n : Int) : Bool := decide (1 ≤ id ∧ id ≤ 8) && decide (0 ≤ n ∧ n ≤ 65536)

theorem sumUp_append (id : Int) (A B : List Nd) : sumUp id (A ++ B) = sumUp id A + sumUp id B := by
  induction A with
  | nil => simp [sumUp]
  | cons n r ih => simp only [List.cons_append, sumUp, ih]; omega
theorem atN_some {id : Int} {n : Nd} : ∀ {L : List Nd}, atN id L = some n → n ∈ L ∧ n.1 = id
  | x :: r, h => by
    unfold atN at h
    split at h
    · rename_i e
      cases h
      exact ⟨by simp, e⟩
    · have := atN_some h
      exact ⟨List.mem_cons_of_mem _ this.1, this.2⟩
theorem atN_none {id : Int} : ∀ {L : List Nd}, atN id L = none ↔ ∀ n ∈ L, n.1 ≠ id
  | [] => by simp [atN]
  | x :: r => by
    unfold atN
    split
    · rename_i e
      simp [e]
    · rename_i e
      rw [atN_none]
      simp [e]
/-- Containers by rising numbers, each within its bounds. -/
abbrev okN (n : Nd) : Prop := (1 ≤ n.1 ∧ n.1 ≤ 8) ∧ (0 ≤ n.2.1 ∧ n.2.1 ≤ 8) ∧ (0 ≤ n.2.2.1 ∧ n.2.2.1 ≤ 65536) ∧ 0 ≤ n.2.2.2 ∧ n.2.2.2 ≤ 65536
structure GoodU (L : List Nd) : Prop where
  up : L.Pairwise (fun a b => a.1 < b.1)
  ok : ∀ n ∈ L, okN n
theorem atN_mem : ∀ {L : List Nd}, L.Pairwise (fun a b => a.1 < b.1) → ∀ {n : Nd}, n ∈ L → atN n.1 L = some n
  | x :: r, hp, n, h => by
    obtain ⟨h1, h2⟩ := List.pairwise_cons.1 hp
    unfold atN
    rcases List.mem_cons.1 h with rfl | h
    · rw [if_pos rfl]
    · have := h1 n h
      rw [if_neg (by omega)]
      exact atN_mem h2 h
theorem pos_at {id : Int} : ∀ {L : List Nd} {n : Nd}, atN id L = some n → posN id L < L.length ∧ L.getD (posN id L) default = n
  | x :: r, n, h => by
    unfold atN at h
    unfold posN
    split at h
    · rename_i e
      cases h
      rw [if_pos e]
      simp
    · rename_i e
      rw [if_neg e]
      have := pos_at h
      simpa using this
theorem pos_of {id : Int} : ∀ {L : List Nd} {j : Nat}, j < L.length → (∀ i, i < j → (L.getD i default).1 ≠ id) → (L.getD j default).1 = id → atN id L = some (L.getD j default) ∧ posN id L = j
  | x :: r, 0, _, _, h => by
    unfold atN posN
    simp only [List.getD_cons_zero] at h ⊢
    rw [if_pos h, if_pos h]
    exact ⟨rfl, rfl⟩
  | x :: r, j + 1, hj, hn, h => by
    have h0 := hn 0 (by omega)
    simp only [List.getD_cons_zero] at h0
    have := pos_of (L := r) (j := j) (by simpa using hj) (fun i hi => by have := hn (i + 1) (by omega); simpa using this) (by simpa using h)
    unfold atN posN
    rw [if_neg h0, if_neg h0, this.1, this.2]
    simp
theorem getD_memN {L : List Nd} {i : Nat} (h : i < L.length) : L.getD i default ∈ L := by
  rw [List.getD_eq_getElem?_getD, List.getElem?_eq_getElem h]; exact List.getElem_mem _
theorem none_of {id : Int} {L : List Nd} (h : ∀ i, i < L.length → (L.getD i default).1 ≠ id) : atN id L = none := by
  rw [atN_none]
  intro n hn
  obtain ⟨i, hi, rfl⟩ := List.getElem_of_mem hn
  have := h i hi
  rwa [List.getD_eq_getElem?_getD, List.getElem?_eq_getElem hi, Option.getD_some] at this
theorem take_snoc {L : List Nd} {i : Nat} (h : i < L.length) : L.take (i + 1) = L.take i ++ [L.getD i default] := by
  rw [List.take_succ_eq_append_getElem h, List.getD_eq_getElem?_getD, List.getElem?_eq_getElem h, Option.getD_some]
theorem sumUp_bounds (id : Int) : ∀ {L : List Nd}, (∀ n ∈ L, okN n) → 0 ≤ sumUp id L ∧ sumUp id L ≤ 65536 * L.length
  | [], _ => by simp [sumUp]
  | n :: r, h => by
    have h1 := sumUp_bounds id (L := r) (fun x hx => h x (List.mem_cons_of_mem _ hx))
    have h2 := h n (by simp)
    unfold sumUp
    simp only [List.length_cons]
    split <;> omega
theorem len_rise : ∀ {L : List Nd} {a : Int}, L.Pairwise (fun a b => a.1 < b.1) → (∀ n ∈ L, a ≤ n.1 ∧ n.1 ≤ 8) → a ≤ 9 → (L.length : Int) ≤ 9 - a
  | [], a, _, _, h => by simp; omega
  | n :: r, a, hp, h, _ => by
    obtain ⟨h1, h2⟩ := List.pairwise_cons.1 hp
    have hn := h n (by simp)
    have := len_rise (L := r) (a := n.1 + 1) h2 (fun x hx => ⟨by have := h1 x hx; omega, (h x (List.mem_cons_of_mem _ hx)).2⟩) (by omega)
    simp only [List.length_cons]
    omega
theorem GoodU.len {L : List Nd} (h : GoodU L) : L.length ≤ 8 := by
  have := len_rise (a := 1) h.up (fun n hn => (h.ok n hn).1) (by decide)
  omega
theorem leftL_some {L : List Nd} {id : Int} {n : Nd} (h : atN id L = some n) : leftL L id = n.2.2.1 - n.2.2.2 - sumUp id L := by
  unfold leftL leftO leftNU
  rw [h]
  simp only [(atN_some h).2]

/-- The containers of numbers below one. -/
def preN (j : Int) (L : List Nd) : List Nd := L.filter fun n => decide (n.1 < j)
theorem preN_one {L : List Nd} (h : GoodU L) : preN 1 L = [] := by
  unfold preN
  rw [List.filter_eq_nil_iff]
  intro n hn
  have := (h.ok n hn).1
  simp; omega
theorem preN_nine {L : List Nd} (h : GoodU L) : preN 9 L = L := by
  unfold preN
  rw [List.filter_eq_self]
  intro n hn
  have := (h.ok n hn).1
  simp; omega
theorem preN_succ (j : Int) : ∀ {L : List Nd}, L.Pairwise (fun a b => a.1 < b.1) → preN (j + 1) L = preN j L ++ (atN j L).toList
  | [], _ => by simp [preN, atN]
  | n :: r, hp => by
    obtain ⟨h1, h2⟩ := List.pairwise_cons.1 hp
    have ih := preN_succ j h2
    unfold preN at ih ⊢
    unfold atN
    by_cases c1 : n.1 < j
    · rw [List.filter_cons_of_pos (by simp; omega), List.filter_cons_of_pos (by simpa using c1), if_neg (by omega), ih]
      rfl
    · have hr : r.filter (fun n => decide (n.1 < j)) = [] := by
        rw [List.filter_eq_nil_iff]
        intro x hx
        have := h1 x hx
        simp; omega
      by_cases c2 : n.1 = j
      · have hr1 : r.filter (fun n => decide (n.1 < j + 1)) = [] := by
          rw [List.filter_eq_nil_iff]
          intro x hx
          have := h1 x hx
          simp; omega
        rw [List.filter_cons_of_pos (by simp; omega), List.filter_cons_of_neg (by simpa using c1), if_pos c2, hr, hr1]
        rfl
      · have hr1 : r.filter (fun n => decide (n.1 < j + 1)) = [] := by
          rw [List.filter_eq_nil_iff]
          intro x hx
          have := h1 x hx
          simp; omega
        have hrn : atN j r = none := by
          rw [atN_none]
          intro x hx
          have := h1 x hx
          omega
        rw [List.filter_cons_of_neg (by simp; omega), List.filter_cons_of_neg (by simpa using c1), if_neg c2, hr, hr1, hrn]
        rfl
theorem preN_some {L : List Nd} (h : GoodU L) {j : Int} {n : Nd} (e : atN j L = some n) : preN (j + 1) L = preN j L ++ [n] := by rw [preN_succ j h.up, e]; rfl
theorem preN_no {L : List Nd} (h : GoodU L) {j : Int} (e : atN j L = none) : preN (j + 1) L = preN j L := by rw [preN_succ j h.up, e]; simp

/-- A container more. -/
def insN (x : Nd) : List Nd → List Nd
  | [] => [x]
  | n :: r => if n.1 < x.1 then n :: insN x r else x :: n :: r
theorem mem_insN {x n : Nd} : ∀ {L : List Nd}, n ∈ insN x L ↔ n = x ∨ n ∈ L
  | [] => by simp [insN]
  | y :: r => by
    unfold insN
    split
    · rw [List.mem_cons, mem_insN, List.mem_cons]
      constructor
      · rintro (h | h | h) <;> simp [h]
      · rintro (h | h | h) <;> simp [h]
    · simp
theorem insN_rise {x : Nd} : ∀ {L : List Nd}, L.Pairwise (fun a b => a.1 < b.1) → (∀ n ∈ L, n.1 ≠ x.1) → (insN x L).Pairwise (fun a b => a.1 < b.1)
  | [], _, _ => by simp [insN]
  | y :: r, hp, hn => by
    obtain ⟨h1, h2⟩ := List.pairwise_cons.1 hp
    have hy := hn y (by simp)
    unfold insN
    split
    · rename_i c
      refine List.pairwise_cons.2 ⟨fun z hz => ?_, insN_rise h2 (fun n h => hn n (List.mem_cons_of_mem _ h))⟩
      rcases mem_insN.1 hz with rfl | hz
      · exact c
      · exact h1 z hz
    · rename_i c
      refine List.pairwise_cons.2 ⟨fun z hz => ?_, hp⟩
      rcases List.mem_cons.1 hz with rfl | hz
      · omega
      · have := h1 z hz
        omega
theorem atN_insN {x : Nd} {i : Int} : ∀ {L : List Nd}, (∀ n ∈ L, n.1 ≠ x.1) → atN i (insN x L) = if i = x.1 then some x else atN i L
  | [], _ => by
    unfold insN atN
    by_cases h : x.1 = i
    · rw [if_pos h, if_pos h.symm]
    · rw [if_neg h, if_neg (fun e => h e.symm)]; rfl
  | y :: r, hn => by
    have hy := hn y (by simp)
    have ih := atN_insN (x := x) (i := i) (L := r) (fun n h => hn n (List.mem_cons_of_mem _ h))
    unfold insN
    split
    · simp only [atN]
      rw [ih]
      by_cases h : y.1 = i
      · rw [if_pos h, if_neg (by omega), if_pos h]
      · rw [if_neg h]
        by_cases h2 : i = x.1
        · rw [if_pos h2, if_pos h2]
        · rw [if_neg h2, if_neg h2, if_neg h]
    · simp only [atN]
      by_cases h2 : i = x.1
      · rw [if_pos h2.symm, if_pos h2]
      · rw [if_neg (fun e => h2 e.symm), if_neg h2]
theorem insN_cut {x : Nd} : ∀ {L : List Nd} {k : Nat}, k ≤ L.length → (∀ i, i < k → (L.getD i default).1 < x.1) → (k < L.length → ¬ (L.getD k default).1 < x.1) → insN x L = L.take k ++ [x] ++ L.drop k
  | [], k, hk, _, _ => by
    obtain rfl : k = 0 := by simpa using hk
    rfl
  | y :: r, 0, _, _, h => by
    have := h (by simp)
    simp only [List.getD_cons_zero] at this
    unfold insN
    rw [if_neg this]
    rfl
  | y :: r, k + 1, hk, h1, h2 => by
    have h0 := h1 0 (by omega)
    simp only [List.getD_cons_zero] at h0
    have := insN_cut (x := x) (L := r) (k := k) (by simpa using hk) (fun i hi => by have := h1 (i + 1) (by omega); simpa using this) (fun hl => by have := h2 (by simpa using hl); simpa using this)
    unfold insN
    rw [if_pos h0, this]
    rfl
theorem sumUp_insN (i : Int) (x : Nd) : ∀ (L : List Nd), sumUp i (insN x L) = (if x.2.1 = i then x.2.2.1 else 0) + sumUp i L
  | [] => rfl
  | y :: r => by
    unfold insN
    split
    · simp only [sumUp, sumUp_insN i x r]; omega
    · rfl
/-- The containers, each turned, its number kept. -/
theorem atN_map {f : Nd → Nd} (hf : ∀ n, (f n).1 = n.1) (i : Int) : ∀ (L : List Nd), atN i (L.map f) = (atN i L).map f
  | [] => rfl
  | y :: r => by
    simp only [List.map_cons, atN, hf]
    split
    · rfl
    · exact atN_map hf i r
theorem map_rise {f : Nd → Nd} (hf : ∀ n, (f n).1 = n.1) {L : List Nd} (h : L.Pairwise (fun a b => a.1 < b.1)) : (L.map f).Pairwise (fun a b => a.1 < b.1) := by
  rw [List.pairwise_map]
  exact h.imp fun {a b} h => by rw [hf, hf]; exact h
/-- A container less. -/
def delN (id : Int) (L : List Nd) : List Nd := L.filter fun n => n.1 != id
/-! What each call answers, and leaves. -/
def openEU (L : List Nd) (id up q : Int) : Int := if fitBU id q = true ∧ fitBU up q = true then (if atN up L = none then 4 else if atN id L ≠ none then 5 else if leftL L up < q then 3 else 0) else 2
def openL (L : List Nd) (id up q : Int) : List Nd := if openEU L id up q = 0 then insN (id, up, q, 0) L else L
def closeEU (L : List Nd) (id : Int) : Int := if fitBU id 0 = true then (match atN id L with | none => 4 | some n => if id = 1 ∨ n.2.2.2 ≠ 0 then 9 else 0) else 2
def reUp (id up : Int) (n : Nd) : Nd := if n.2.1 = id then (n.1, up, n.2.2) else n
def upN (L : List Nd) (id : Int) : Int := ((atN id L).getD default).2.1
def closeL (L : List Nd) (id : Int) : List Nd := if closeEU L id = 0 then (delN id L).map (reUp id (upN L id)) else L
def setU (id d : Int) (n : Nd) : Nd := if n.1 = id then (n.1, n.2.1, n.2.2.1, n.2.2.2 + d) else n
def chargeEU (L : List Nd) (id n : Int) : Int := if fitBU id n = true then (if atN id L = none then 4 else if leftL L id < n then 3 else 0) else 2
def chargeL (L : List Nd) (id n : Int) : List Nd := if chargeEU L id n = 0 then L.map (setU id n) else L
def refundEU (L : List Nd) (id n : Int) : Int := if fitBU id n = true then (match atN id L with | none => 4 | some x => if x.2.2.2 < n then 9 else 0) else 2
def refundL (L : List Nd) (id n : Int) : List Nd := if refundEU L id n = 0 then L.map (setU id (-n)) else L

theorem fitB_iff {id n : Int} : fitBU id n = true ↔ (1 ≤ id ∧ id ≤ 8) ∧ 0 ≤ n ∧ n ≤ 65536 := by unfold fitBU; simp
theorem setU_id (id d : Int) (n : Nd) : (setU id d n).1 = n.1 := by unfold setU; split <;> rfl
theorem openEU_zero {L : List Nd} {id up q : Int} : openEU L id up q = 0 ↔ (fitBU id q = true ∧ fitBU up q = true) ∧ (∃ n, atN up L = some n) ∧ atN id L = none ∧ q ≤ leftL L up := by
  unfold openEU
  constructor
  · intro h
    split at h
    · rename_i h1
      split at h
      · cases h
      · rename_i h2
        split at h
        · cases h
        · rename_i h3
          split at h
          · cases h
          · rename_i h4
            refine ⟨h1, ?_, by simpa using h3, by omega⟩
            cases e : atN up L with
            | none => exact absurd e h2
            | some n => exact ⟨n, rfl⟩
    · cases h
  · rintro ⟨h1, ⟨n, h2⟩, h3, h4⟩
    rw [if_pos h1, if_neg (by rw [h2]; simp), if_neg (by rw [h3]; simp), if_neg (by omega)]
theorem chargeEU_zero {L : List Nd} {id n : Int} : chargeEU L id n = 0 ↔ fitBU id n = true ∧ (∃ x, atN id L = some x) ∧ n ≤ leftL L id := by
  unfold chargeEU
  constructor
  · intro h
    split at h
    · rename_i h1
      split at h
      · cases h
      · rename_i h2
        split at h
        · cases h
        · rename_i h3
          refine ⟨h1, ?_, by omega⟩
          cases e : atN id L with
          | none => exact absurd e h2
          | some n => exact ⟨n, rfl⟩
    · cases h
  · rintro ⟨h1, ⟨x, h2⟩, h3⟩
    rw [if_pos h1, if_neg (by rw [h2]; simp), if_neg (by omega)]
theorem GoodU.one (q : Int) (h0 : 0 ≤ q) (h1 : q ≤ 65536) : GoodU [(1, 0, q, 0)] := ⟨by simp, fun n hn => by simp only [List.mem_singleton] at hn; subst hn; dsimp only [okN]; omega⟩
theorem GoodU.open {L : List Nd} (h : GoodU L) (id up q : Int) : GoodU (openL L id up q) := by
  unfold openL
  split
  · rename_i e
    obtain ⟨⟨h1, h2⟩, _, h3, _⟩ := openEU_zero.1 e
    rw [fitB_iff] at h1 h2
    refine ⟨insN_rise h.up (atN_none.1 h3), fun n hn => ?_⟩
    rcases mem_insN.1 hn with rfl | hn
    · simp only [okN]; omega
    · exact h.ok n hn
  · exact h
theorem GoodU.charge {L : List Nd} (h : GoodU L) (id n : Int) : GoodU (chargeL L id n) := by
  unfold chargeL
  split
  · rename_i e
    obtain ⟨h1, ⟨x, h2⟩, h3⟩ := chargeEU_zero.1 e
    rw [fitB_iff] at h1
    refine ⟨map_rise (setU_id _ _) h.up, fun y hy => ?_⟩
    obtain ⟨m, hm, rfl⟩ := List.mem_map.1 hy
    have := h.ok m hm
    unfold setU
    split
    · rename_i e2
      have hx := atN_mem h.up hm
      rw [e2, h2] at hx
      cases hx
      rw [leftL_some h2] at h3
      have := sumUp_bounds id h.ok
      simp only [okN] at *
      omega
    · exact this
  · exact h
/-! Containers as a row of cells. -/
def ndV (n : Nd) : List Value := [.int .i64 n.1, .int .i64 n.2.1, .int .i64 n.2.2.1, .int .i64 n.2.2.2]
def ndsV (L : List Nd) : List Value := L.flatMap ndV
theorem ndsV_append (A B : List Nd) : ndsV (A ++ B) = ndsV A ++ ndsV B := by simp [ndsV]
theorem ndsV_one (n : Nd) : ndsV [n] = ndV n := by simp [ndsV]
theorem ndsV_length (L : List Nd) : (ndsV L).length = L.length * 4 := by
  induction L with
  | nil => rfl
  | cons y l ih => simp only [ndsV, ndV, List.flatMap_cons, List.length_append, List.length_cons, List.length_nil] at ih ⊢; omega
theorem ndsV_get : ∀ (L : List Nd) (i : Nat), i < L.length → (ndsV L)[i * 4]? = some (.int .i64 (L.getD i default).1) ∧ (ndsV L)[i * 4 + 1]? = some (.int .i64 (L.getD i default).2.1) ∧ (ndsV L)[i * 4 + 2]? = some (.int .i64 (L.getD i default).2.2.1) ∧ (ndsV L)[i * 4 + 3]? = some (.int .i64 (L.getD i default).2.2.2)
  | y :: l, 0, _ => by simp [ndsV, ndV]
  | y :: l, i + 1, h => by
    obtain ⟨a, b, c, d⟩ := ndsV_get l i (by simpa using h)
    have e : ndsV (y :: l) = ndV y ++ ndsV l := by simp [ndsV]
    have hl : (ndV y).length = 4 := rfl
    rw [e]
    refine ⟨?_, ?_, ?_, ?_⟩ <;> rw [List.getElem?_append_right (by rw [hl]; omega), hl]
    · rw [show (i + 1) * 4 - 4 = i * 4 by omega, a]; simp
    · rw [show (i + 1) * 4 + 1 - 4 = i * 4 + 1 by omega, b]; simp
    · rw [show (i + 1) * 4 + 2 - 4 = i * 4 + 2 by omega, c]; simp
    · rw [show (i + 1) * 4 + 3 - 4 = i * 4 + 3 by omega, d]; simp
theorem ndsV_one' {L : List Nd} : ∀ u ∈ ndsV L, u.oneCell' = true := fun u hu => by
  obtain ⟨y, _, hy⟩ := List.mem_flatMap.1 hu
  simp only [ndV, List.mem_cons, List.not_mem_nil, or_false] at hy
  rcases hy with rfl | rfl | rfl | rfl <;> rfl
theorem ndsV_take (L : List Nd) (i : Nat) (hi : i ≤ L.length) : (ndsV L).take (i * 4) = ndsV (L.take i) := by
  have e : ndsV L = ndsV (L.take i) ++ ndsV (L.drop i) := by rw [← ndsV_append, List.take_append_drop]
  have hl : (ndsV (L.take i)).length = i * 4 := by rw [ndsV_length, List.length_take]; omega
  rw [e, ← hl, List.take_left]
theorem ndsV_drop (L : List Nd) (i : Nat) (hi : i ≤ L.length) : (ndsV L).drop (i * 4) = ndsV (L.drop i) := by
  have e : ndsV L = ndsV (L.take i) ++ ndsV (L.drop i) := by rw [← ndsV_append, List.take_append_drop]
  have hl : (ndsV (L.take i)).length = i * 4 := by rw [ndsV_length, List.length_take]; omega
  conv => lhs; rw [e, ← hl]
  rw [List.drop_left]
theorem ndsV_set (L : List Nd) (i : Nat) (n : Nd) (u : Int) (hi : i < L.length) (hn : L.getD i default = n) : ndsV (L.set i (n.1, n.2.1, n.2.2.1, u)) = (ndsV L).set (i * 4 + 3) (.int .i64 u) := by
  induction L generalizing i with
  | nil => simp at hi
  | cons y l ih =>
    cases i with
    | zero =>
      simp only [List.getD_cons_zero] at hn
      subst hn
      simp [ndsV, ndV]
    | succ i =>
      have := ih i (by simpa using hi) (by simpa using hn)
      have e : ∀ (z : Nd) (r : List Nd), ndsV (z :: r) = ndV z ++ ndsV r := fun z r => by simp [ndsV]
      rw [List.set_cons_succ, e, this, e, List.set_append_right _ _ (by simp [ndV]; omega)]
      congr 2
      simp [ndV]; omega
theorem map_setU (id d : Int) : ∀ {L : List Nd}, L.Pairwise (fun a b => a.1 < b.1) → ∀ {n : Nd}, atN id L = some n → L.map (setU id d) = L.set (posN id L) (n.1, n.2.1, n.2.2.1, n.2.2.2 + d)
  | y :: r, hp, n, h => by
    obtain ⟨h1, h2⟩ := List.pairwise_cons.1 hp
    unfold atN at h
    unfold posN
    split at h
    · rename_i e
      cases h
      rw [if_pos e, List.set_cons_zero, List.map_cons]
      have : r.map (setU id d) = r := by
        conv => rhs; rw [← List.map_id r]
        apply List.map_congr_left
        intro x hx
        have := h1 x hx
        unfold setU
        rw [if_neg (by omega)]; rfl
      rw [this]
      unfold setU
      rw [if_pos e]
    · rename_i e
      rw [if_neg e, List.set_cons_succ, List.map_cons, map_setU id d h2 h]
      unfold setU
      rw [if_neg e]
end Go.Proofs.YtkenipanpimolaaGreatDoor

/- A budget in memory: a map of pointers, each to a container; the contracts of package budget's isThere, isNumber, isId, add. Condition: the budget lies as New laid it. -/
namespace Go.Proofs.YtkenipanpimolaaGreatDoor
open Go.RowKit Go.Maps
set_option maxRecDepth 100000

/-- To which block each number leads. -/
abbrev Pt := Int → Option Nat
def ptI : Option Nat → Int
  | none => -1
  | some b => (b : Int)
def ptV : Option Nat → Value
  | none => .pointer none
  | some b => .pointer (some ⟨b, 0, none⟩)
def ptrElem : Value → Option (DataW Unit × List MemPlace)
  | .pointer none => some (.lit (.int .i64 (-1)), [])
  | .pointer (some a) => if a = ⟨a.block, 0, none⟩ then some (.lit (.int .i64 (a.block : Int)), []) else none
  | _ => none
theorem ptrElem_mk (x : Option Nat) : ptrElem (ptV x) = some (.lit (.int .i64 (ptI x)), []) := by
  cases x <;> simp [ptrElem, ptV, ptI]
theorem ptrElem_inv {v : Value} {ps : List MemPlace} {x : Option Nat} (h : ptrElem v = some (.lit (.int .i64 (ptI x)), ps)) : v = ptV x := by
  unfold ptrElem at h
  split at h
  · cases x with
    | none => rfl
    | some b => simp [ptI] at h
  · rename_i a
    split at h
    · rename_i e
      cases x with
      | none => simp [ptI] at h
      | some b =>
        simp [ptI] at h
        have : a.block = b := by omega
        rw [e, this]; rfl
    · cases h
  · cases h
def updP (P : Pt) (x : Int) (v : Option Nat) : Pt := fun y => if y = x then v else P y
theorem updP_same (P : Pt) (x : Int) (v : Option Nat) : updP P x v x = v := by simp [updP]
theorem updP_other (P : Pt) (x : Int) (v : Option Nat) {y : Int} (h : y ≠ x) : updP P x v y = P y := by simp [updP, h]
/-- What a map's datum says of pointers. -/
structure PtrHas (D : DataW Unit) (P : Pt) : Prop where
  at_ : ∀ x : Int, D.atKey (.int .i64 x) (.lit (.int .i64 (-1))) = .lit (.int .i64 (ptI (P x)))
  has_ : ∀ x : Int, Maps.has D (.int .i64 x) = (P x).isSome
  frames : Frames D
theorem PtrHas.empty : PtrHas (.map []) (fun _ => none) := ⟨fun x => by simp [ptI]; rfl, fun x => by simp; rfl, [], rfl, List.Pairwise.nil, fun p hp => by simp at hp⟩
theorem Frames.putI {D : DataW Unit} (h : Frames D) (x : Int) (hx : 1 ≤ x ∧ x ≤ 8) (d : DataW Unit) : Frames (D.put (.int .i64 x) d) := by
  obtain ⟨x, rfl⟩ := Int.eq_ofNat_of_zero_le (show 0 ≤ x by omega)
  exact h.put x (by omega) d
theorem PtrHas.put {D : DataW Unit} {P : Pt} (h : PtrHas D P) (x : Int) (hx : 1 ≤ x ∧ x ≤ 8) (v : Option Nat) (hv : v.isSome = true) : PtrHas (D.put (.int .i64 x) (.lit (.int .i64 (ptI v)))) (updP P x v) :=
  ⟨fun y => by
    by_cases e : y = x
    · subst e; rw [updP_same, atKey_put_same h.frames.isMap (isKeyI _ (by omega))]
    · rw [updP_other _ _ _ e, atKey_put_other (lit_ne e), h.at_],
   fun y => by
    by_cases e : y = x
    · subst e; rw [updP_same, has_put_same h.frames.isMap (isKeyI _ (by omega)), hv]
    · rw [updP_other _ _ _ e, has_put_other (lit_ne e), h.has_], h.frames.putI x hx _⟩
def PtrsAt (w : World) (m : Nat) (P : Pt) : Prop := ∃ (D : DataW Unit) (k : Nat), w.ownsMap Tryz.prog 3 ptrElem m k D ∧ k ≤ 1024 ∧ PtrHas D P
theorem ptr_tight {w : World} {b k : Nat} {D : DataW Unit} (h : w.ownsMap Tryz.prog 3 ptrElem b k D) (m : Nat) (hm : Maps.size D ≤ m) : w.ownsMap Tryz.prog 3 ptrElem b m D := by
  obtain ⟨es, clock, hb, F, _, rfl⟩ := h
  refine ⟨es, clock, hb, F, ?_, rfl⟩
  simpa [Maps.size, length_sorted] using hm
theorem PtrsAt.made (w : World) : PtrsAt (w.alloc (.map #[] 0)) w.heap.size (fun _ => none) := ⟨_, 0, World.ownsMap_made _ _ _ _, by omega, PtrHas.empty⟩
theorem PtrsAt.isMap {w : World} {b : Nat} {P : Pt} (h : PtrsAt w b P) : ∃ es clock, w.heap[b]? = some (.map es clock) := by
  obtain ⟨D, k, ⟨es, clock, hb, _⟩, _⟩ := h
  exact ⟨es, clock, hb⟩
theorem PtrsAt.lt {w : World} {b : Nat} {P : Pt} (h : PtrsAt w b P) : b < w.heap.size := by
  obtain ⟨es, clock, hb⟩ := h.isMap
  exact lt_of_block hb
theorem PtrsAt.same {w w' : World} {b : Nat} {P : Pt} (h : PtrsAt w b P) (e : w'.heap[b]? = w.heap[b]?) : PtrsAt w' b P := by
  obtain ⟨D, k, ⟨es, clock, hb, r⟩, hk, hr⟩ := h
  exact ⟨D, k, ⟨es, clock, e.trans hb, r⟩, hk, hr⟩
theorem zeroPtr (w : World) : (zeroValue 120).run Tryz.prog w = .ok (.pointer none) w := by kernel_rfl
section
variable (w : World) {ops : Array Oper} {rest : List Oper} {o : Oper} {a : Act} {Q : Exit → Act → World → Prop}
theorem wpList_ptr_ok (hg : o.guard = none) (m x : Operand) (hop : o.op = Op.lookup 86 m x true) (b : Nat) (P : Pt) (hm : a.eval m = .map (some b)) (h : PtrsAt w b P) (y : Int) (hx : a.eval x = .int .i64 y) (hy : -9223372036854775808 ≤ y ∧ y ≤ 9223372036854775807) (c : Option Nat) (hc : P y = c)
    (hK : wpList Tryz.prog ops Q rest (a.put o.dst (.tuple #[ptV c, .bool c.isSome])) w) : wpList Tryz.prog ops Q (o :: rest) a w := by
  obtain ⟨D, k, hown, _, hr⟩ := h
  refine wpList_lookup_own_ok w hg m x 86 hop 3 120 keyI Tryz.underlying86 ptrElem (zeroPtr _) (.lit (.int .i64 (-1))) [] rfl b k D hm hown (.int .i64 y) (.int .i64 y) hx (keyOfI y hy) fun v ps hv => ?_
  rw [hr.at_ y, hc] at hv
  rw [hr.has_ y, hc, ptrElem_inv hv]
  exact hK
theorem wpList_ptr_look (hg : o.guard = none) (m x : Operand) (hop : o.op = Op.lookup 86 m x false) (b : Nat) (P : Pt) (hm : a.eval m = .map (some b)) (h : PtrsAt w b P) (y : Int) (hx : a.eval x = .int .i64 y) (hy : -9223372036854775808 ≤ y ∧ y ≤ 9223372036854775807) (c : Option Nat) (hc : P y = c)
    (hK : wpList Tryz.prog ops Q rest (a.put o.dst (ptV c)) w) : wpList Tryz.prog ops Q (o :: rest) a w := by
  obtain ⟨D, k, hown, _, hr⟩ := h
  refine wpList_plain hg fun K' hK' => ?_
  obtain ⟨v, ps, hrun, hv⟩ := hown.lookup keyI Tryz.underlying86 (zeroPtr w) (zd := .lit (.int .i64 (-1))) (zp := []) rfl (keyOfI y hy)
  rw [hr.at_ y, hc] at hv
  rw [ptrElem_inv hv] at hrun
  unfold Oper.wp
  simp [execOp, hop, hm, hx, hrun, Result.andThen]
  exact hK' _ _ hK
theorem wpList_ptr_put (hg : o.guard = none) (m x v : Operand) (hop : o.op = Op.mapUpdate 86 m x v) (b : Nat) (P : Pt) (hm : a.eval m = .map (some b)) (h : PtrsAt w b P) (y : Int) (hx : a.eval x = .int .i64 y) (hy : 1 ≤ y ∧ y ≤ 8) (c : Nat) (hv : a.eval v = .pointer (some ⟨c, 0, none⟩))
    (hK : ∀ w', PtrsAt w' b (updP P y (some c)) → w.grownBy w' (some b) → wpList Tryz.prog ops Q rest (a.put o.dst undef) w') : wpList Tryz.prog ops Q (o :: rest) a w := by
  obtain ⟨D, k, hown, hk, hr⟩ := h
  refine wpList_mapUpdate_own _ hg m x v 86 hop 3 120 keyI Tryz.underlying86 _ b k D hm hown (by unfold maxLen; omega) (.int .i64 y) (.pointer (some ⟨c, 0, none⟩)) (.int .i64 y) hx hv (keyOfI _ (by omega)) (.lit (.int .i64 (ptI (some c)))) [] (ptrElem_mk (some c)) fun w' h1 h2 => ?_
  have hr' := hr.put y hy (some c) rfl
  exact hK w' ⟨_, 1024, ptr_tight h1 1024 hr'.frames.size, Nat.le_refl _, hr'⟩ h2
end

/-- A container in memory. -/
def ndO (n : Nd) : Obj := .cells #[.int .i64 n.1, .int .i64 n.2.1, .int .i64 n.2.2.1, .int .i64 n.2.2.2] 96 (0, 0)
def budO (m : Nat) : Obj := .cells #[.map (some m)] 88 (0, 0)
theorem ndO_cells {w : World} {p : Nat} {n : Nd} (h : w.heap[p]? = some (ndO n)) : w.cell? ⟨p, 0, none⟩ = some (.int .i64 n.1) ∧ w.cell? ⟨p, 1, none⟩ = some (.int .i64 n.2.1) ∧ w.cell? ⟨p, 2, none⟩ = some (.int .i64 n.2.2.1) ∧ w.cell? ⟨p, 3, none⟩ = some (.int .i64 n.2.2.2) ∧ (∀ i, w.frozen? ⟨p, i, none⟩ = false) := box4 h
structure BudAt (w : World) (b m : Nat) (P : Pt) (L : List Nd) : Prop where
  box : w.heap[b]? = some (budO m)
  map : PtrsAt w m P
  out : ∀ id, atN id L = none → P id = none
  inn : ∀ id n, atN id L = some n → ∃ p, P id = some p ∧ w.heap[p]? = some (ndO n)
  good : GoodU L
theorem BudAt.cell {w : World} {b m : Nat} {P : Pt} {L : List Nd} (h : BudAt w b m P L) : w.cell? ⟨b, 0, none⟩ = some (.map (some m)) := by rw [cell_of_row w b 0 _ _ _ h.box]; rfl
/-- The blocks that calls may change. -/
def bB (m : Nat) (P : Pt) (k : Nat) : Prop := k = m ∨ ∃ id, P id = some k
theorem BudAt.node {w : World} {b m : Nat} {P : Pt} {L : List Nd} (h : BudAt w b m P L) {id : Int} {p : Nat} (hp : P id = some p) : ∃ n, atN id L = some n ∧ w.heap[p]? = some (ndO n) := by
  cases e : atN id L with
  | none => rw [h.out id e] at hp; cases hp
  | some n =>
    obtain ⟨p', h1, h2⟩ := h.inn id n e
    rw [h1] at hp
    cases hp
    exact ⟨n, rfl, h2⟩
theorem BudAt.lt {w : World} {b m : Nat} {P : Pt} {L : List Nd} (h : BudAt w b m P L) {k : Nat} (hk : bB m P k) : k < w.heap.size := by
  rcases hk with rfl | ⟨id, hp⟩
  · exact h.map.lt
  · obtain ⟨n, _, h2⟩ := h.node hp
    exact lt_of_block h2
theorem BudAt.boxOut {w : World} {b m : Nat} {P : Pt} {L : List Nd} (h : BudAt w b m P L) : ¬ bB m P b := by
  rintro (e | ⟨id, hp⟩)
  · obtain ⟨es, ck, hm⟩ := h.map.isMap
    have := h.box
    rw [e, hm] at this
    cases this
  · obtain ⟨n, _, h2⟩ := h.node hp
    have := h.box
    rw [h2] at this
    exact absurd (show (some 96 : Option Nat) = some 88 from congrArg kindOf (Option.some.inj this)) (by decide)
theorem BudAt.mapOut {w : World} {b m : Nat} {P : Pt} {L : List Nd} (h : BudAt w b m P L) (id : Int) : P id ≠ some m := fun hp => by
  obtain ⟨n, _, h2⟩ := h.node hp
  obtain ⟨es, ck, hm⟩ := h.map.isMap
  rw [hm] at h2
  cases h2
theorem BudAt.inj {w : World} {b m : Nat} {P : Pt} {L : List Nd} (h : BudAt w b m P L) {i j : Int} {p : Nat} (h1 : P i = some p) (h2 : P j = some p) : i = j := by
  obtain ⟨n, a1, a2⟩ := h.node h1
  obtain ⟨k, b1, b2⟩ := h.node h2
  have hi := (atN_some a1).2
  have hj := (atN_some b1).2
  rw [a2] at b2
  simp only [ndO, Option.some.injEq, Obj.cells.injEq, and_true] at b2
  have := congrArg (fun c : Array Value => c[0]?) b2
  simp at this
  omega
theorem BudAt.kept {w w' : World} {b m : Nat} {P : Pt} {L : List Nd} (h : BudAt w b m P L) (h0 : w'.heap[b]? = w.heap[b]?) (hk : ∀ k, bB m P k → w'.heap[k]? = w.heap[k]?) : BudAt w' b m P L :=
  ⟨h0.trans h.box, h.map.same (hk m (Or.inl rfl)), h.out, fun id n e => by
    obtain ⟨p, h1, h2⟩ := h.inn id n e
    exact ⟨p, h1, (hk p (Or.inr ⟨id, h1⟩)).trans h2⟩, h.good⟩
theorem BudAt.step {w w' : World} {b m : Nat} {P : Pt} {L : List Nd} (h : BudAt w b m P L) (hb : Below w.heap.size w w') : BudAt w' b m P L :=
  h.kept (hb.block _ (lt_of_block h.box)) (fun _ hk => hb.block _ (h.lt hk))
/-- What a call leaves. -/
structure Turned (w w' : World) (b m : Nat) (P : Pt) (L' : List Nd) : Prop where
  ex : ∃ P', BudAt w' b m P' L' ∧ ∀ id p, P' id = some p → P id = some p ∨ w.heap.size ≤ p
  only : Only w w' (bB m P)
theorem Turned.stay {w w' : World} {b m : Nat} {P : Pt} {L : List Nd} (h : BudAt w b m P L) (hb : Below w.heap.size w w') : Turned w w' b m P L :=
  ⟨⟨P, h.step hb, fun _ _ e => Or.inl e⟩, Only.below hb⟩

theorem isNumber_ok (n : Int) (w : World) : Calls Tryz.prog 32 #[.int .i64 n] w fun e w' => e = .returned (.bool (decide (0 ≤ n ∧ n ≤ 65536))) ∧ w = w' := by
  by_cases h1 : 0 ≤ n
  · by_cases h2 : n ≤ 65536
    · rw [decide_eq_true (And.intro h1 h2)]
      go_enter Tryz.func32, Tryz.ntmps32
      go_wp2
      go_ret
      exact ⟨rfl, rfl⟩
    · rw [decide_eq_false (fun h => h2 h.2)]
      go_enter Tryz.func32, Tryz.ntmps32
      go_wp2
      go_ret
      exact ⟨rfl, rfl⟩
  · rw [decide_eq_false (fun h => h1 h.1)]
    go_enter Tryz.func32, Tryz.ntmps32
    go_wp2
    go_ret
    exact ⟨rfl, rfl⟩
theorem isId_ok (n : Int) (w : World) : Calls Tryz.prog 92 #[.int .i64 n] w fun e w' => e = .returned (.bool (decide (1 ≤ n ∧ n ≤ 8))) ∧ w = w' := by
  by_cases h1 : 1 ≤ n
  · by_cases h2 : n ≤ 8
    · rw [decide_eq_true (And.intro h1 h2)]
      go_enter Tryz.func92, Tryz.ntmps92
      go_wp2
      go_ret
      exact ⟨rfl, rfl⟩
    · rw [decide_eq_false (fun h => h2 h.2)]
      go_enter Tryz.func92, Tryz.ntmps92
      go_wp2
      go_ret
      exact ⟨rfl, rfl⟩
  · rw [decide_eq_false (fun h => h1 h.1)]
    go_enter Tryz.func92, Tryz.ntmps92
    go_wp2
    go_ret
    exact ⟨rfl, rfl⟩
/-- There is no budget: none, or one that nobody made. -/
def NoBud (w : World) (p : Option Addr) : Prop := p = none ∨ ∃ b, p = some ⟨b, 0, none⟩ ∧ w.cell? ⟨b, 0, none⟩ = some (.map none)
theorem isThere_ok (b m : Nat) (w : World) (hc : w.cell? ⟨b, 0, none⟩ = some (.map (some m))) : Calls Tryz.prog 68 #[.pointer (some ⟨b, 0, none⟩)] w fun e w' => e = .returned (.bool true) ∧ w = w' := by
  have hm := run_neq_map_nil (P := Tryz.prog) w 86 3 120 (some m) Tryz.underlying86
  go_enter Tryz.func68, Tryz.ntmps68
  go_wp2
  go_ret
  exact ⟨rfl, rfl⟩
end Go.Proofs.YtkenipanpimolaaGreatDoor

/- The contracts of package budget's ask, of, each, add. Condition: the budget lies as New laid it, or there is none. -/
namespace Go.Proofs.YtkenipanpimolaaGreatDoor
open Go.RowKit Go.Maps
set_option maxRecDepth 100000

def numBU (n : Int) : Bool := decide (0 ≤ n ∧ n ≤ 65536)
def idB (n : Int) : Bool := decide (1 ≤ n ∧ n ≤ 8)
theorem fitB_eq (id n : Int) : fitBU id n = (idB id && numBU n) := rfl
def askE (there : Bool) (n : Int) (ids : List Int) : Int := if there = true then (if numBU n = true then (if ids.all idB = true then 0 else 2) else 2) else 1
theorem take_allB {ids : List Int} {j : Nat} (h : j < ids.length) (h1 : (ids.take j).all idB = true) (h2 : idB (ids.getD j 0) = true) : (ids.take (j + 1)).all idB = true := by
  have e : ids.getD j 0 = ids[j] := by simp [List.getD_eq_getElem?_getD, h]
  rw [List.take_succ_eq_append_getElem h, List.all_append, h1, ← e]
  simpa using h2
theorem not_allB {ids : List Int} {j : Nat} (h : j < ids.length) (h2 : idB (ids.getD j 0) = false) : ids.all idB = false := by
  have e : ids.getD j 0 = ids[j] := by simp [List.getD_eq_getElem?_getD, h]
  cases ha : ids.all idB with
  | false => rfl
  | true =>
    rw [List.all_eq_true] at ha
    have := ha _ (List.getElem_mem h)
    rw [← e, h2] at this
    cases this
set_option maxHeartbeats 1000000 in
theorem ask_anyU (p : Option Addr) (there : Bool) (n : Int) (ids : List Int) (g k : Nat) (w : World) (hk : k = ids.length) (hp : Calls Tryz.prog 68 #[.pointer p] w fun e w' => e = .returned (.bool there) ∧ w = w') (hl : k ≤ 2) (hc : ∀ i, i < k → w.cell? ⟨g, i, none⟩ = some (.int .i64 (ids.getD i 0))) :
    Calls Tryz.prog 53 #[.pointer p, .int .i64 n, .slice (some ⟨g, 0, none⟩) k k] w fun e w' => e = .returned (.int .i64 (askE there n ids)) ∧ w = w' := by
  have HP := Lib.hid hp
  have HC := Lib.hid hc
  have HK := Lib.hid hk
  clear hp hc hk
  go_enter Tryz.func53, Tryz.ntmps53
  go_wp2_with fail
  refine HP.out.mono ?_
  rintro e w1 ⟨rfl, rfl⟩
  cases there with
  | false =>
    go_wp2
    go_ret
    exact ⟨rfl, rfl⟩
  | true =>
    go_wp2_with fail
    refine (isNumber_ok n _).mono ?_
    rintro e w1 ⟨rfl, rfl⟩
    cases hn : numBU n with
    | false =>
      have hn' : decide (0 ≤ n ∧ n ≤ 65536) = false := hn
      rw [hn']
      go_wp2
      go_ret
      exact ⟨by unfold askE; rw [if_pos rfl, hn]; rfl, rfl⟩
    | true =>
      have hn' : decide (0 ≤ n ∧ n ≤ 65536) = true := hn
      rw [hn']
      have HN := Lib.hid hn
      clear hn hn'
      go_wp2_with fail
      go_loopw [17] (fun i wr => ∃ j : Nat, i = .int .i64 (j : Int) ∧ j ≤ k ∧ wr = w ∧ (ids.take j).all idB = true) (fun i _ => (k - (intOf i).toNat))
      case atStart => exact ⟨0, rfl, Nat.zero_le _, rfl, by simp⟩
      case round =>
        obtain ⟨j, rfl, hj, rfl, hall⟩ := hrel
        have ALL := Lib.hid hall
        clear hall
        by_cases hlt : j < k
        · have c0 := HC.out j hlt
          cases hb : idB (ids.getD j 0) with
          | false =>
            have hb' : decide (1 ≤ ids.getD j 0 ∧ ids.getD j 0 ≤ 8) = false := hb
            have NB := Lib.hid (not_allB (by have := HK.out; omega) hb)
            generalize ids.getD j 0 = x at *
            go_wp2_with fail
            refine (isId_ok x _).mono ?_
            rintro e w1 ⟨rfl, rfl⟩
            rw [hb']
            go_wp2
            go_ret
            exact ⟨by unfold askE; rw [if_pos rfl, HN.out, if_pos rfl, NB.out]; rfl, rfl⟩
          | true =>
            have A2 := Lib.hid (take_allB (by have := HK.out; omega) ALL.out hb)
            have hb' : decide (1 ≤ ids.getD j 0 ∧ ids.getD j 0 ≤ 8) = true := hb
            generalize ids.getD j 0 = x at *
            go_wp2_with fail
            refine (isId_ok x _).mono ?_
            rintro e w1 ⟨rfl, rfl⟩
            rw [hb']
            go_wp2
            go_roundw
            case rel => exact ⟨j + 1, by go_num, by omega, by trivial, A2.out⟩
            case measure => simp [intOf]; omega
        · obtain rfl : j = k := by omega
          have e : ids.all idB = true := by have := ALL.out; rwa [HK.out, List.take_length] at this
          have E := Lib.hid e
          clear hlt e
          go_wp2
          go_ret
          exact ⟨by unfold askE; rw [if_pos rfl, HN.out, if_pos rfl, E.out]; rfl, rfl⟩

set_option maxHeartbeats 1000000 in
theorem each_ok (k : Nat) (caps : Array Value) (hent : ∀ (args : Array Value) (W : World), (callFunc k args).run Tryz.prog W = .ok (.enter k args) W) (b m : Nat) (P : Pt) (J : Int → World → Prop) (w : World)
    (hat : ∀ j V, J j V → V.cell? ⟨b, 0, none⟩ = some (.map (some m)) ∧ PtrsAt V m P)
    (hin : ∀ j p V, 1 ≤ j → j ≤ 8 → P j = some p → J j V → Calls Tryz.prog k (#[.pointer (some ⟨p, 0, none⟩)] ++ caps) V fun e w' => e = .returned (.tuple #[]) ∧ J (j + 1) w')
    (hout : ∀ j V, 1 ≤ j → j ≤ 8 → P j = none → J j V → J (j + 1) V) (h1 : J 1 w) :
    Calls Tryz.prog 69 #[.pointer (some ⟨b, 0, none⟩), .func (.func k) #[] caps] w fun e w' => e = .returned (.tuple #[]) ∧ J 9 w' := by
  have HAT := Lib.hid hat
  have HIN := Lib.hid hin
  have HOUT := Lib.hid hout
  have H1 := Lib.hid h1
  clear hat hin hout h1
  go_enter Tryz.func69, Tryz.ntmps69
  go_wp2_with fail
  go_loopw [4] (fun i wr => ∃ j : Int, i = .int .i64 j ∧ 1 ≤ j ∧ j ≤ 9 ∧ J j wr) (fun i _ => (9 - intOf i).toNat)
  case atStart => exact ⟨1, rfl, by decide, by decide, H1.out⟩
  case round =>
    obtain ⟨j, rfl, hj1, hj9, hJ⟩ := hrel
    have HJ := Lib.hid hJ
    clear hJ
    by_cases hlt : j ≤ 8
    · obtain ⟨c0, hmp⟩ := HAT.out j wr HJ.out
      have MP := Lib.hid hmp
      clear hmp
      cases hpj : P j with
      | none =>
        have N1 := Lib.hid (HOUT.out j wr hj1 hlt hpj HJ.out)
        have HPJ := Lib.hid hpj
        clear hpj
        go_wp2_with (refine wpList_ptr_ok _ rfl (.tmp 15) (.tmp 16) rfl m P rfl MP.out j rfl (by omega) none HPJ.out ?_)
        go_roundw
        case rel => exact ⟨j + 1, by go_num, by omega, by omega, N1.out⟩
        case measure => simp [intOf]; omega
      | some p =>
        have HPJ := Lib.hid hpj
        clear hpj
        go_wp2_with (first | (refine wpList_ptr_ok _ rfl (.tmp 15) (.tmp 16) rfl m P rfl MP.out j rfl (by omega) (some p) HPJ.out ?_) | fail)
        refine (HIN.out j p _ hj1 hlt HPJ.out HJ.out).mono ?_
        rintro e w2 ⟨rfl, hJ2⟩
        have J2 := Lib.hid hJ2
        clear hJ2
        go_wp2
        go_roundw
        case rel => exact ⟨j + 1, by go_num, by omega, by omega, J2.out⟩
        case measure => simp [intOf]; omega
    · obtain rfl : j = 9 := by omega
      clear hlt hj1 hj9
      go_wp2
      go_end0
      exact ⟨rfl, HJ.out⟩
end Go.Proofs.YtkenipanpimolaaGreatDoor

/- The contracts of package budget's of, left, Left. Condition: the budget lies as New laid it. -/
namespace Go.Proofs.YtkenipanpimolaaGreatDoor
open Go.RowKit Go.Maps
set_option maxRecDepth 100000

theorem enters_left1 (args : Array Value) (W : World) : (callFunc 93 args).run Tryz.prog W = .ok (.enter 93 args) W := enters Tryz.func93 rfl rfl args W
theorem box1 {w : World} {k : Nat} {a : Value} {t : TypeId} (h : w.heap[k]? = some (.cells #[a] t (0, 0))) : w.cell? ⟨k, 0, none⟩ = some a ∧ w.frozen? ⟨k, 0, none⟩ = false :=
  ⟨cell_of_one h, free_of_one h⟩
theorem leftIt_no (p bo bl q : Nat) (n o : Nd) (w : World) (hn : w.heap[p]? = some (ndO n)) (hq : w.heap[q]? = some (ndO o)) (hbo : w.heap[bo]? = some (.cells #[.pointer (some ⟨q, 0, none⟩)] 120 (0, 0))) (hne : n.2.1 ≠ o.1) :
    Calls Tryz.prog 93 #[.pointer (some ⟨p, 0, none⟩), .pointer (some ⟨bo, 0, none⟩), .pointer (some ⟨bl, 0, none⟩)] w fun e w' => e = .returned (.tuple #[]) ∧ ∃ k, w' = w.drewN k := by
  obtain ⟨a0, a1, a2, a3, -⟩ := ndO_cells hn
  obtain ⟨b0, b1, b2, b3, -⟩ := ndO_cells hq
  obtain ⟨c0, -⟩ := box1 hbo
  have he : (n.2.1 == o.1) = false := by simpa using hne
  clear hn hq hbo hne
  generalize n.2.1 = x at *
  generalize o.1 = y at *
  go_enter Tryz.func93, Tryz.ntmps93
  go_wp2
  go_quiet (fail)
  go_wp2
  go_end0
  exact ⟨rfl, _, rfl⟩
theorem leftIt_yes (p bo bl q : Nat) (n o : Nd) (s d : Int) (w : World) (hn : w.heap[p]? = some (ndO n)) (hq : w.heap[q]? = some (ndO o)) (hbo : w.heap[bo]? = some (.cells #[.pointer (some ⟨q, 0, none⟩)] 120 (0, 0))) (hbl : w.heap[bl]? = some (.cells #[.int .i64 s] 3 (0, 0))) (hne : n.2.1 = o.1)
    (hs : -1000000 ≤ s ∧ s ≤ 65536) (hok : okN n) (hd : d = s - n.2.2.1) :
    Calls Tryz.prog 93 #[.pointer (some ⟨p, 0, none⟩), .pointer (some ⟨bo, 0, none⟩), .pointer (some ⟨bl, 0, none⟩)] w fun e w' => e = .returned (.tuple #[]) ∧ w'.heap[bl]? = some (.cells #[.int .i64 d] 3 (0, 0)) ∧ w.grownBy w' (some bl) := by
  obtain ⟨a0, a1, a2, a3, -⟩ := ndO_cells hn
  obtain ⟨b0, b1, b2, b3, -⟩ := ndO_cells hq
  obtain ⟨c0, -⟩ := box1 hbo
  obtain ⟨d0, f0⟩ := box1 hbl
  have he : (n.2.1 == o.1) = true := by simpa using hne
  have hq2 := hok.2.2.1
  have HD := Lib.hid hd
  have HBL := Lib.hid hbl
  clear hn hq hbo hbl hne hok hd
  generalize n.2.1 = x at *
  generalize n.2.2.1 = z at *
  generalize o.1 = y at *
  have hw : IntKind.i64.wrap (s - z) = s - z := IntWalk.i64_in _ (by omega)
  go_enter Tryz.func93, Tryz.ntmps93
  go_wp2
  go_quiet (fail)
  go_wp2
  obtain ⟨W2, hW2⟩ : ∃ W2, W2 = w.drewN nq := ⟨_, rfl⟩
  have g0 : W2.cell? ⟨p, 2, none⟩ = some (.int .i64 z) := by rw [hW2]; exact a2
  have g1 : W2.cell? ⟨bl, 0, none⟩ = some (.int .i64 s) := by rw [hW2]; exact d0
  have g2 : W2.frozen? ⟨bl, 0, none⟩ = false := by rw [hW2]; exact f0
  have G3 : Hid (W2.heap[bl]? = some (.cells #[.int .i64 s] 3 (0, 0)) ∧ w.grownBy W2 (some bl)) := Lib.hid (by rw [hW2]; exact ⟨HBL.out, grownBy_of_below (below_drewN (Below.refl _ _) _) _⟩)
  rw [← hW2]
  clear hW2 a0 a1 a2 a3 b0 b1 b2 b3 c0 d0 f0 he
  go_still_tail 6, (by kernel_rfl)
  go_wp2
  go_end0
  refine ⟨rfl, ?_, grownBy_trans G3.out.2 (grownBy_heap (grownBy_setCell _ _ _ _) rfl rfl rfl rfl)⟩
  have := heap_setCell_same W2 bl 0 _ _ (.int .i64 (s - z)) G3.out.1
  rw [HD.out]
  exact this

/-- What left has reckoned. -/
structure LftSt (w : World) (b m : Nat) (P : Pt) (L : List Nd) (q : Nat) (n : Nd) (j : Int) (V : World) : Prop where
  st : BudAt V b m P L
  below : Below w.heap.size w V
  node : V.heap[w.heap.size]? = some (.cells #[.pointer (some ⟨q, 0, none⟩)] 120 (0, 0))
  left : V.heap[w.heap.size + 1]? = some (.cells #[.int .i64 (n.2.2.1 - n.2.2.2 - sumUp n.1 (preN j L))] 3 (0, 0))
theorem preN_sub {L : List Nd} (h : GoodU L) (j : Int) : (∀ n ∈ preN j L, okN n) ∧ (preN j L).length ≤ 8 :=
  ⟨fun n hn => h.ok n (List.mem_filter.1 hn).1, Nat.le_trans (List.length_filter_le _ _) h.len⟩
theorem left_round {w : World} {b m : Nat} {P : Pt} {L : List Nd} {q : Nat} {n : Nd} {j : Int} {V : World} (h : LftSt w b m P L q n j V) (hq : P n.1 = some q) (hn : atN n.1 L = some n) {p : Nat} (hp : P j = some p) :
    Calls Tryz.prog 93 #[.pointer (some ⟨p, 0, none⟩), .pointer (some ⟨w.heap.size, 0, none⟩), .pointer (some ⟨w.heap.size + 1, 0, none⟩)] V fun e w' => e = .returned (.tuple #[]) ∧ LftSt w b m P L q n (j + 1) w' := by
  obtain ⟨x, hx, hpx⟩ := h.st.node hp
  obtain ⟨n', hn', hqn⟩ := h.st.node hq
  obtain rfl : n = n' := by rw [hn] at hn'; exact Option.some.inj hn'
  have hg := h.st.good
  have e1 := preN_some hg hx
  have hox := hg.ok x (atN_some hx).1
  have hon := hg.ok n (atN_some hn).1
  have hsb := sumUp_bounds n.1 (preN_sub hg j).1
  have hsl := (preN_sub hg j).2
  have e2 : sumUp n.1 (preN (j + 1) L) = sumUp n.1 (preN j L) + (if x.2.1 = n.1 then x.2.2.1 else 0) := by rw [e1, sumUp_append]; simp [sumUp]
  by_cases hu : x.2.1 = n.1
  · refine (leftIt_yes p _ _ q x n _ (n.2.2.1 - n.2.2.2 - sumUp n.1 (preN (j + 1) L)) V hpx hqn h.node h.left hu (by omega) hox (by rw [e2, if_pos hu]; omega)).mono ?_
    rintro e w' ⟨rfl, h1, h2⟩
    have hbl : ¬ bB m P (w.heap.size + 1) := by
      rintro (e | ⟨id, hp⟩)
      · obtain ⟨es, ck, hm⟩ := h.st.map.isMap
        have := h.left
        rw [e, hm] at this
        cases this
      · obtain ⟨y, _, h3⟩ := h.st.node hp
        have := h.left
        rw [h3] at this
        exact absurd (show (some 96 : Option Nat) = some 3 from congrArg kindOf (Option.some.inj this)) (by decide)
    have hne : b ≠ w.heap.size + 1 := fun e => by
      have := h.st.box
      rw [e, h.left] at this
      exact absurd (show (some 3 : Option Nat) = some 88 from congrArg kindOf (Option.some.inj this)) (by decide)
    exact ⟨rfl, h.st.kept (h2.block _ (lt_of_block h.st.box) (fun e => hne (Option.some.inj e))) (fun k hk => h2.block k (h.st.lt hk) (fun e => hbl (Option.some.inj e ▸ hk))),
      h.below.trans (below_of_grownBy h2 h.below.size (by omega)), (h2.block _ (lt_of_block h.node) (fun e => by have := Option.some.inj e; omega)).trans h.node, h1⟩
  · refine (leftIt_no p _ (w.heap.size + 1) q x n V hpx hqn h.node hu).mono ?_
    rintro e w' ⟨rfl, k, rfl⟩
    have hb : Below V.heap.size V (V.drewN k) := below_drewN (Below.refl _ _) k
    refine ⟨rfl, h.st.step hb, below_drewN h.below k, h.node, ?_⟩
    rw [e2, if_neg hu, Int.add_zero]
    exact h.left
set_option maxHeartbeats 1000000 in
theorem left_okU {w : World} {b m : Nat} {P : Pt} {L : List Nd} {q : Nat} {n : Nd} (h : BudAt w b m P L) (hq : P n.1 = some q) (hn : atN n.1 L = some n) :
    Calls Tryz.prog 54 #[.pointer (some ⟨b, 0, none⟩), .pointer (some ⟨q, 0, none⟩)] w fun e w' => e = .returned (.int .i64 (leftNU L n)) ∧ Below w.heap.size w w' := by
  have hmf : ∀ (fn : Fn) (first cap : Array Value) (w : World), (Instr.makeFunc fn first cap).run Tryz.prog w = .ok (.func fn first cap) w := fun _ _ _ _ => rfl
  obtain ⟨n', hn', hqn⟩ := h.node hq
  obtain rfl : n = n' := by rw [hn] at hn'; exact Option.some.inj hn'
  have hqlt := lt_of_block hqn
  have hok := h.good.ok n (atN_some hn).1
  obtain ⟨a0, a1, a2, a3, -⟩ := ndO_cells hqn
  have HK := Lib.hid (show okN n from hok)
  have hw : IntKind.i64.wrap (n.2.2.1 - n.2.2.2) = n.2.2.1 - n.2.2.2 := IntWalk.i64_in _ (by omega)
  obtain ⟨w1, hw1⟩ : ∃ w1, w1 = w.alloc (.cells #[.pointer (some ⟨q, 0, none⟩)] 120) := ⟨_, rfl⟩
  have B1 : Hid (Below w.heap.size w w1) := Lib.hid (by rw [hw1]; exact (Below.refl _ _).alloc (Nat.le_refl _) _)
  have N1 : Hid (w1.heap[w.heap.size]? = some (.cells #[.pointer (some ⟨q, 0, none⟩)] 120 (0, 0))) := Lib.hid (by rw [hw1]; exact heap_alloc_new w _)
  have S1 : Hid (w1.heap.size = w.heap.size + 1) := Lib.hid (by rw [hw1]; simp)
  have H := Lib.hid h
  have HQ := Lib.hid hq
  have HN := Lib.hid hn
  have g2 : w1.cell? ⟨q, 2, none⟩ = some (.int .i64 n.2.2.1) := (B1.out.cell (p := ⟨q, 2, none⟩) hqlt).trans a2
  have g3 : w1.cell? ⟨q, 3, none⟩ = some (.int .i64 n.2.2.2) := (B1.out.cell (p := ⟨q, 3, none⟩) hqlt).trans a3
  have g0 := cell_of_one N1.out
  clear h hq hn hn' hok
  go_enter Tryz.func54, Tryz.ntmps54
  go_wp2_with fail
  rw [← hw1]
  clear hw1 a0 a1 a2 a3 hqn
  have BA : Hid (Below w1.heap.size w1 (w1.alloc (.cells #[.int .i64 0] 3)).drew) := Lib.hid ((Below.refl _ _).alloc (Nat.le_refl _) _).drew
  have k0 : (w1.alloc (.cells #[.int .i64 0] 3)).drew.cell? ⟨w.heap.size, 0, none⟩ = some (.pointer (some ⟨q, 0, none⟩)) := (BA.out.cell (p := ⟨_, 0, none⟩) (by rw [S1.out]; exact Nat.lt_succ_self _)).trans g0
  have k2 : (w1.alloc (.cells #[.int .i64 0] 3)).drew.cell? ⟨q, 2, none⟩ = some (.int .i64 n.2.2.1) := (BA.out.cell (p := ⟨_, 2, none⟩) (by rw [S1.out]; exact Nat.lt_succ_of_lt hqlt)).trans g2
  have k3 : (w1.alloc (.cells #[.int .i64 0] 3)).drew.cell? ⟨q, 3, none⟩ = some (.int .i64 n.2.2.2) := (BA.out.cell (p := ⟨_, 3, none⟩) (by rw [S1.out]; exact Nat.lt_succ_of_lt hqlt)).trans g3
  go_region
  rw [S1.out]
  clear k0 k2 k3 g0 g2 g3
  obtain ⟨w2, hw2⟩ : ∃ w2, w2 = (w1.alloc (.cells #[.int .i64 (n.2.2.1 - n.2.2.2)] 3)).drew := ⟨_, rfl⟩
  have L2 : Hid (LftSt w b m P L q n 1 w2) := Lib.hid (by
    have hb : Below w1.heap.size w1 w2 := by rw [hw2]; exact ((Below.refl _ _).alloc (Nat.le_refl _) _).drew
    have hbw := B1.out.trans (hb.mono B1.out.size)
    refine ⟨H.out.step hbw, hbw, below_block hb N1.out, ?_⟩
    rw [preN_one H.out.good, hw2, ← S1.out, show sumUp n.1 [] = 0 from rfl, Int.sub_zero]
    exact heap_alloc_new w1 _)
  rw [← hw2]
  clear hw2
  go_wp2_with fail
  refine (each_ok 93 #[.pointer (some ⟨w.heap.size, 0, none⟩), .pointer (some ⟨w.heap.size + 1, 0, none⟩)] enters_left1 b m P (fun j V => LftSt w b m P L q n j V) _ (fun j V hV => ⟨hV.st.cell, hV.st.map⟩) (fun j p V _ _ hp hV => left_round hV HQ.out HN.out hp) (fun j V _ _ hp hV => ?_) L2.out).mono ?_
  · have hno : atN j L = none := by
      cases e : atN j L with
      | none => rfl
      | some x =>
        obtain ⟨p', h1, _⟩ := H.out.inn j x e
        rw [hp] at h1
        cases h1
    refine ⟨hV.st, hV.below, hV.node, ?_⟩
    rw [preN_no H.out.good hno]
    exact hV.left
  rintro e w3 ⟨rfl, hL⟩
  have B3 := Lib.hid hL.below
  have c3 := cell_of_one hL.left
  rw [preN_nine H.out.good] at c3
  clear hL
  go_wp2
  go_ret
  exact ⟨rfl, B3.out⟩

/-- What asking for a container answers. -/
def ofEU (L : List Nd) (id n : Int) : Int := if fitBU id n = true then (if atN id L = none then 4 else 0) else 2
def ofP (P : Pt) (e id : Int) : Option Nat := if e = 0 then P id else none
theorem idB_bounds {id : Int} (h : idB id = true) : 1 ≤ id ∧ id ≤ 8 := by unfold idB at h; simpa using h
theorem ask_one (p : Option Addr) (there : Bool) (n id : Int) (g : Nat) (w : World) (hp : Calls Tryz.prog 68 #[.pointer p] w fun e w' => e = .returned (.bool there) ∧ w = w') (hg : w.heap[g]? = some (.cells #[.int .i64 id] 3 (0, 0))) {er : Int} (he : askE there n [id] = er) :
    Calls Tryz.prog 53 #[.pointer p, .int .i64 n, .slice (some ⟨g, 0, none⟩) 1 1] w fun e w' => e = .returned (.int .i64 er) ∧ w = w' := by
  rw [← he]
  refine ask_anyU p there n [id] g 1 w rfl hp (by decide) (fun i hi => ?_)
  obtain rfl : i = 0 := by omega
  exact cell_of_one hg
set_option maxHeartbeats 1000000 in
theorem of_err (p : Option Addr) (there : Bool) (id n er : Int) (w : World) (hp : ∀ W, Below w.heap.size w W → Calls Tryz.prog 68 #[.pointer p] W fun e w' => e = .returned (.bool there) ∧ W = w') (he : askE there n [id] = er) (hne : (er != 0) = true) :
    Calls Tryz.prog 117 #[.pointer p, .int .i64 id, .int .i64 n] w fun e w' => e = .returned (.tuple #[.pointer none, .int .i64 er]) ∧ Below w.heap.size w w' := by
  obtain ⟨w1, hw1⟩ : ∃ w1, w1 = w.alloc (.cells #[.int .i64 id] 3) := ⟨_, rfl⟩
  have B1 : Hid (Below w.heap.size w w1) := Lib.hid (by rw [hw1]; exact (Below.refl _ _).alloc (Nat.le_refl _) _)
  have N1 : Hid (w1.heap[w.heap.size]? = some (.cells #[.int .i64 id] 3 (0, 0))) := Lib.hid (by rw [hw1]; exact heap_alloc_new w _)
  have HE := Lib.hid he
  have HP := Lib.hid (hp _ B1.out)
  clear he hp
  go_enter Tryz.func117, Tryz.ntmps117
  go_wp2_with fail
  rw [← hw1]
  clear hw1
  refine (ask_one p there n id w.heap.size w1 HP.out N1.out HE.out).mono ?_
  rintro e w2 ⟨rfl, rfl⟩
  go_wp2
  go_ret2
  exact ⟨rfl, B1.out⟩
set_option maxHeartbeats 1000000 in
theorem of_at {w : World} {b m : Nat} {P : Pt} {L : List Nd} (h : BudAt w b m P L) (id n : Int) (he : askE true n [id] = 0) (hib : 1 ≤ id ∧ id ≤ 8) :
    (P id = none → Calls Tryz.prog 117 #[.pointer (some ⟨b, 0, none⟩), .int .i64 id, .int .i64 n] w fun e w' => e = .returned (.tuple #[.pointer none, .int .i64 4]) ∧ Below w.heap.size w w') ∧
    ∀ p, P id = some p → Calls Tryz.prog 117 #[.pointer (some ⟨b, 0, none⟩), .int .i64 id, .int .i64 n] w fun e w' => e = .returned (.tuple #[.pointer (some ⟨p, 0, none⟩), .int .i64 0]) ∧ Below w.heap.size w w' := by
  obtain ⟨w1, hw1⟩ : ∃ w1, w1 = w.alloc (.cells #[.int .i64 id] 3) := ⟨_, rfl⟩
  have B1 : Hid (Below w.heap.size w w1) := Lib.hid (by rw [hw1]; exact (Below.refl _ _).alloc (Nat.le_refl _) _)
  have N1 : Hid (w1.heap[w.heap.size]? = some (.cells #[.int .i64 id] 3 (0, 0))) := Lib.hid (by rw [hw1]; exact heap_alloc_new w _)
  have C1 := Lib.hid ((h.step B1.out).cell)
  have M1 := Lib.hid ((h.step B1.out).map)
  have HE := Lib.hid he
  clear h he
  refine ⟨fun hp => ?_, fun p hp => ?_⟩
  · have HP := Lib.hid hp
    clear hp
    go_enter Tryz.func117, Tryz.ntmps117
    go_wp2_with fail
    rw [← hw1]
    clear hw1
    refine (ask_one _ true n id w.heap.size w1 (isThere_ok b m w1 C1.out) N1.out HE.out).mono ?_
    rintro e w2 ⟨rfl, rfl⟩
    have c1 := C1.out
    go_wp2_with (refine wpList_ptr_ok _ rfl (.tmp 23) (.tmp 24) rfl m P rfl M1.out id rfl (by omega) none HP.out ?_)
    go_ret2
    exact ⟨rfl, B1.out⟩
  · have HP := Lib.hid hp
    clear hp
    go_enter Tryz.func117, Tryz.ntmps117
    go_wp2_with fail
    rw [← hw1]
    clear hw1
    refine (ask_one _ true n id w.heap.size w1 (isThere_ok b m w1 C1.out) N1.out HE.out).mono ?_
    rintro e w2 ⟨rfl, rfl⟩
    have c1 := C1.out
    go_wp2_with (refine wpList_ptr_ok _ rfl (.tmp 23) (.tmp 24) rfl m P rfl M1.out id rfl (by omega) (some p) HP.out ?_)
    go_ret2
    exact ⟨rfl, B1.out⟩
theorem of_okU {w : World} {b m : Nat} {P : Pt} {L : List Nd} (h : BudAt w b m P L) (id n : Int) {er : Int} {pt : Option Nat} (he : ofEU L id n = er) (hp : ofP P er id = pt) :
    Calls Tryz.prog 117 #[.pointer (some ⟨b, 0, none⟩), .int .i64 id, .int .i64 n] w fun e w' => e = .returned (.tuple #[ptV pt, .int .i64 er]) ∧ Below w.heap.size w w' := by
  subst he hp
  have two : fitBU id n = false → ofEU L id n = 2 ∧ askE true n [id] = 2 := fun hf => by
    refine ⟨by unfold ofEU; rw [if_neg (by rw [hf]; decide)], ?_⟩
    unfold askE
    rw [fitB_eq] at hf
    cases hn : numBU n <;> cases hi : idB id <;> simp_all
  cases hf : fitBU id n with
  | false =>
    obtain ⟨e1, e2⟩ := two hf
    rw [e1]
    exact of_err _ true id n 2 w (fun W hb => isThere_ok b m W (h.step hb).cell) e2 rfl
  | true =>
    have hf' := hf
    rw [fitB_eq, Bool.and_eq_true] at hf'
    have e1 : askE true n [id] = 0 := by unfold askE; rw [if_pos rfl, hf'.2, if_pos rfl]; simp [hf'.1]
    obtain ⟨h1, h2⟩ := of_at h id n e1 (idB_bounds hf'.1)
    cases ha : atN id L with
    | none =>
      have e2 : ofEU L id n = 4 := by unfold ofEU; rw [if_pos hf, if_pos ha]
      rw [e2]
      exact h1 (h.out id ha)
    | some x =>
      obtain ⟨p, hp, _⟩ := h.inn id x ha
      have e2 : ofEU L id n = 0 := by unfold ofEU; rw [if_pos hf, if_neg (by rw [ha]; simp)]
      rw [e2, show ofP P 0 id = some p by unfold ofP; rw [if_pos rfl]; exact hp]
      exact h2 p hp
theorem ofE_zero {L : List Nd} {id : Int} (h : fitBU id 0 = true) {n : Nd} (ha : atN id L = some n) : ofEU L id 0 = 0 := by unfold ofEU; rw [if_pos h, if_neg (by rw [ha]; simp)]
theorem GoodU.fits {L : List Nd} (h : GoodU L) {id : Int} {n : Nd} (ha : atN id L = some n) : fitBU id 0 = true := by
  have := h.ok n (atN_some ha).1
  have e := (atN_some ha).2
  rw [fitB_iff]
  omega
theorem ofE_none {L : List Nd} {id n : Int} (ha : atN id L = none) : ofEU L id n ≠ 0 := by
  unfold ofEU
  rw [if_pos ha]
  split <;> decide
set_option maxHeartbeats 1000000 in
/-- Left. -/
theorem left_isU {w : World} {b m : Nat} {P : Pt} {L : List Nd} (h : BudAt w b m P L) (id : Int) {d : Int} (hd : leftL L id = d) :
    Calls Tryz.prog 78 #[.pointer (some ⟨b, 0, none⟩), .int .i64 id] w fun e w' => e = .returned (.int .i64 d) ∧ Below w.heap.size w w' := by
  have H := Lib.hid h
  clear h
  cases ha : atN id L with
  | none =>
    have hd0 : d = 0 := by rw [← hd]; unfold leftL; rw [ha]; rfl
    subst hd0
    have he := ofE_none (n := 0) ha
    obtain ⟨er, her⟩ : ∃ er, ofEU L id 0 = er := ⟨_, rfl⟩
    rw [her] at he
    have OF := Lib.hid (of_okU H.out id 0 her (show ofP P er id = none by unfold ofP; rw [if_neg he]))
    have hne : (er != 0) = true := by simpa using he
    clear hd ha her he
    go_enter Tryz.func78, Tryz.ntmps78
    go_wp2_with fail
    refine OF.out.mono ?_
    rintro e w1 ⟨rfl, hb⟩
    have B1 := Lib.hid hb
    clear hb
    go_wp2
    go_ret
    exact ⟨rfl, B1.out⟩
  | some n =>
    obtain ⟨q, hq, _⟩ := H.out.inn id n ha
    have hid := (atN_some ha).2
    have OF := Lib.hid (of_okU H.out id 0 (ofE_zero (H.out.good.fits ha) ha) (show ofP P 0 id = some q by unfold ofP; rw [if_pos rfl]; exact hq))
    have hdn : d = leftNU L n := by rw [← hd]; unfold leftL; rw [ha]; rfl
    have HD := Lib.hid hdn
    have HQ : Hid (P n.1 = some q) := Lib.hid (by rw [hid]; exact hq)
    have HN : Hid (atN n.1 L = some n) := Lib.hid (by rw [hid]; exact ha)
    clear hd ha hq hdn hid
    go_enter Tryz.func78, Tryz.ntmps78
    go_wp2_with fail
    refine OF.out.mono ?_
    rintro e w1 ⟨rfl, hb⟩
    have B1 := Lib.hid hb
    have H1 := Lib.hid (H.out.step hb)
    clear hb
    unfold ptV
    go_wp2_with fail
    refine (left_okU H1.out HQ.out HN.out).mono ?_
    rintro e w2 ⟨rfl, hb⟩
    have B2 := Lib.hid (B1.out.trans (hb.mono B1.out.size))
    clear hb
    go_wp2
    go_ret
    exact ⟨by rw [HD.out]; rfl, B2.out⟩
end Go.Proofs.YtkenipanpimolaaGreatDoor

/- The contracts of package budget's All, add. Condition: the budget lies as New laid it. -/
namespace Go.Proofs.YtkenipanpimolaaGreatDoor
open Go.RowKit Go.Maps
set_option maxRecDepth 100000

theorem nodeInfo : (Tryz.prog.info? 96).map (fun i => (i.zero, i.size, i.bytes)) = some (some (.agg #[.int .i64 0, .int .i64 0, .int .i64 0, .int .i64 0]), 4, 32) := by kernel_rfl
theorem new_node (w : World) (a b c d : Int) (t : TypeId) : ∀ j u, [Value.int .i64 a, .int .i64 b, .int .i64 c, .int .i64 d][j]? = some u → (w.alloc (.cells #[.int .i64 a, .int .i64 b, .int .i64 c, .int .i64 d] t)).cell? ((⟨w.heap.size, 0, none⟩ : Addr).add j) = some u := fun j u hu => by
  rw [Addr.add_mid, Nat.zero_add, cell_of_row _ _ _ _ _ _ (heap_alloc_new w _)]
  simpa using hu
theorem enters_All1 (args : Array Value) (W : World) : (callFunc 70 args).run Tryz.prog W = .ok (.enter 70 args) W := enters Tryz.func70 rfl rfl args W
theorem ownsRow_setBox {w : World} {base k n bl : Nat} {e t : TypeId} {v u : Value} {xs : List Value} {cs : Array Value} (h : w.ownsRow base e k v n xs) (hb : w.heap[bl]? = some (.cells cs t (0, 0))) (hne : e ≠ t) : (w.setCell ⟨bl, 0, none⟩ u).ownsRow base e k v n xs :=
  h.kept (grownBy_setCell w bl 0 u) (by
    cases hv : v.ownBlock with
    | none => exact Or.inl rfl
    | some g =>
      refine Or.inr fun e2 => ?_
      obtain ⟨cs', hcs⟩ := own_block h hv
      cases e2
      rw [hb] at hcs
      cases hcs
      exact hne rfl)
set_option maxHeartbeats 2000000 in
theorem allIt (p bl base k : Nat) (a b c d : Int) (v : Value) (xs : List Value) (w : World) (hn : w.heap[p]? = some (ndO (a, b, c, d))) (hbl : w.heap[bl]? = some (.cells #[v] 28 (0, 0))) (ho : w.ownsRow base 96 4 v k xs) (hk : k ≤ 8) (hbs : base ≤ w.heap.size) :
    Calls Tryz.prog 70 #[.pointer (some ⟨p, 0, none⟩), .pointer (some ⟨bl, 0, none⟩)] w fun e w' => e = .returned (.tuple #[]) ∧ (∃ v', w'.heap[bl]? = some (.cells #[v'] 28 (0, 0)) ∧ w'.ownsRow base 96 4 v' (k + 1) (xs ++ [.int .i64 a, .int .i64 b, .int .i64 c, .int .i64 d])) ∧ Only w w' (fun i => i = bl ∨ v.ownBlock = some i) := by
  obtain ⟨ie, hi, hi0, hi1, hi2⟩ := info_parts nodeInfo
  obtain ⟨a0, a1, a2, a3, -⟩ := ndO_cells hn
  obtain ⟨d0, f0⟩ := box1 hbl
  simp only at a0 a1 a2 a3
  have hpl := lt_of_block hn
  have hbll := lt_of_block hbl
  have HBL := Lib.hid hbl
  have HO := Lib.hid ho
  have ZB := Lib.hid hbs
  obtain ⟨wa, hwa⟩ : ∃ wa, wa = w.drew.alloc (.cells #[.int .i64 a, .int .i64 b, .int .i64 c, .int .i64 d] 96) := ⟨_, rfl⟩
  have BA : Hid (Below w.heap.size w wa) := Lib.hid (by rw [hwa]; exact (Below.refl _ _).drew.alloc (Nat.le_refl _) _)
  have OA : Hid (wa.ownsRow base 96 4 v k xs) := Lib.hid (own_step ho BA.out)
  have NEWS := Lib.hid (new_node w.drew a b c d 96)
  have ZA : Hid (base ≤ wa.heap.size) := Lib.hid (Nat.le_trans hbs BA.out.size)
  rw [hwa] at OA ZA
  have BA2 := BA
  rw [hwa] at BA2
  clear hn hbl ho hwa hbs
  go_enter Tryz.func70, Tryz.ntmps70
  go_wp2_with fail
  go_region_law (first
    | (refine step_append_lies _ (by rfl) _ _ _ (by rfl) base 96 ie (.agg #[.int .i64 0, .int .i64 0, .int .i64 0, .int .i64 0]) 4 32 Tryz.underlying28 hi hi0 hi1 hi2 rfl (by omega) v k xs (by rfl) OA.out ⟨w.drew.heap.size, 0, none⟩ 1 1 [.int .i64 a, .int .i64 b, .int .i64 c, .int .i64 d] (by rfl) (by rfl) NEWS.out (by simp [Value.oneCell']) (by omega) (by unfold maxLen; omega) (by omega) ZA.out (w.drew.heap.size + 1) (by simp) ?_
       intro gg cap w4 ho hg hat hlt4
       have OO := Lib.hid ho
       have GG := Lib.hid hg
       have hb4 : w4.heap[bl]? = some (.cells #[v] 28 (0, 0)) := (hg.block bl (lt_of_block (below_block BA2.out HBL.out)) (fun e => by
         obtain ⟨cs, hcs⟩ := own_block OA.out e.symm
         rw [below_block BA2.out HBL.out] at hcs
         exact absurd (show (some 28 : Option Nat) = some 96 from congrArg kindOf (Option.some.inj hcs)) (by decide))).trans (below_block BA2.out HBL.out)
       have B4 := Lib.hid hb4
       obtain ⟨y1, f1⟩ := box1 hb4
       clear ho hg hat hb4))
  all_goals
    go_wp2
    go_end0
    refine ⟨rfl, ⟨_, heap_setCell_same _ bl 0 _ _ _ B4.out, ?_⟩, ?_⟩
    · exact ownsRow_setBox OO.out B4.out (by decide)
    · exact ((Only.below BA2.out).trans ((Only.mk GG.out.os GG.out.tape GG.out.output GG.out.size (fun i hi hB => GG.out.block i hi (fun e => hB (Or.inr e.symm)))))).trans (Only.grown (grownBy_setCell _ _ _ _) (Or.inl rfl))

section
variable (w : World) {ops : Array Oper} {rest : List Oper} {o : Oper} {a : Act} {Q : Exit → Act → World → Prop}
theorem wpList_look0 (hg : o.guard = none) (m x : Operand) (hop : o.op = Op.lookup 86 m x false) (b : Nat) (P : Pt) (hm : a.eval m = .map (some b)) (h : PtrsAt w b P) (y : Int) (hx : a.eval x = .int .i64 y) (hy : -9223372036854775808 ≤ y ∧ y ≤ 9223372036854775807) (hc : P y = none)
    (hK : wpList Tryz.prog ops Q rest (a.put o.dst (.pointer none)) w) : wpList Tryz.prog ops Q (o :: rest) a w := wpList_ptr_look w hg m x hop b P hm h y hx hy none hc hK
theorem wpList_look1 (hg : o.guard = none) (m x : Operand) (hop : o.op = Op.lookup 86 m x false) (b : Nat) (P : Pt) (hm : a.eval m = .map (some b)) (h : PtrsAt w b P) (y : Int) (hx : a.eval x = .int .i64 y) (hy : -9223372036854775808 ≤ y ∧ y ≤ 9223372036854775807) (p : Nat) (hc : P y = some p)
    (hK : wpList Tryz.prog ops Q rest (a.put o.dst (.pointer (some ⟨p, 0, none⟩))) w) : wpList Tryz.prog ops Q (o :: rest) a w := wpList_ptr_look w hg m x hop b P hm h y hx hy (some p) hc hK
theorem wpList_ok0 (hg : o.guard = none) (m x : Operand) (hop : o.op = Op.lookup 86 m x true) (b : Nat) (P : Pt) (hm : a.eval m = .map (some b)) (h : PtrsAt w b P) (y : Int) (hx : a.eval x = .int .i64 y) (hy : -9223372036854775808 ≤ y ∧ y ≤ 9223372036854775807) (hc : P y = none)
    (hK : wpList Tryz.prog ops Q rest (a.put o.dst (.tuple #[.pointer none, .bool false])) w) : wpList Tryz.prog ops Q (o :: rest) a w := wpList_ptr_ok w hg m x hop b P hm h y hx hy none hc hK
theorem wpList_ok1 (hg : o.guard = none) (m x : Operand) (hop : o.op = Op.lookup 86 m x true) (b : Nat) (P : Pt) (hm : a.eval m = .map (some b)) (h : PtrsAt w b P) (y : Int) (hx : a.eval x = .int .i64 y) (hy : -9223372036854775808 ≤ y ∧ y ≤ 9223372036854775807) (p : Nat) (hc : P y = some p)
    (hK : wpList Tryz.prog ops Q rest (a.put o.dst (.tuple #[.pointer (some ⟨p, 0, none⟩), .bool true])) w) : wpList Tryz.prog ops Q (o :: rest) a w := wpList_ptr_ok w hg m x hop b P hm h y hx hy (some p) hc hK
end

/-- What All has gathered. -/
structure AllSt11 (w : World) (L : List Nd) (j : Int) (V : World) : Prop where
  below : Below w.heap.size w V
  row : ∃ v, V.heap[w.heap.size]? = some (.cells #[v] 28 (0, 0)) ∧ V.ownsRow w.heap.size 96 4 v (preN j L).length (ndsV (preN j L))
theorem all_round {w : World} {b m : Nat} {P : Pt} {L : List Nd} (h : BudAt w b m P L) {j : Int} {V : World} (hV : AllSt11 w L j V) {p : Nat} (hp : P j = some p) :
    Calls Tryz.prog 70 #[.pointer (some ⟨p, 0, none⟩), .pointer (some ⟨w.heap.size, 0, none⟩)] V fun e w' => e = .returned (.tuple #[]) ∧ AllSt11 w L (j + 1) w' := by
  obtain ⟨v, h1, h2⟩ := hV.row
  obtain ⟨⟨a, b', c, d⟩, hx, hpx⟩ := (h.step hV.below).node hp
  refine (allIt p w.heap.size w.heap.size _ a b' c d v _ V hpx h1 h2 (preN_sub h.good j).2 hV.below.size).mono ?_
  rintro e w' ⟨rfl, ⟨v', h3, h4⟩, h5⟩
  refine ⟨rfl, Only.old hV.below h5 hV.below.size (fun k hk => ?_), v', h3, ?_⟩
  · rcases hk with rfl | hk
    · exact Nat.le_refl _
    · exact (h2.lt k hk).1
  · rw [preN_some h.good hx, List.length_append, ndsV_append, ndsV_one]
    exact h4
theorem hno_of {w : World} {b m : Nat} {P : Pt} {L : List Nd} (h : BudAt w b m P L) {j : Int} (hp : P j = none) : atN j L = none := by
  cases e : atN j L with
  | none => rfl
  | some x =>
    obtain ⟨p', h1, _⟩ := h.inn j x e
    rw [hp] at h1
    cases h1
def AllPost11 (w : World) (L : List Nd) (e : Ending) (w' : World) : Prop := ∃ v, e = .returned v ∧ w'.ownsRow w.heap.size 96 4 v L.length (ndsV L) ∧ Below w.heap.size w w'
set_option maxHeartbeats 1000000 in
theorem allm11_ok {w : World} {b m : Nat} {P : Pt} {L : List Nd} (h : BudAt w b m P L) :
    Calls Tryz.prog 34 #[.pointer (some ⟨b, 0, none⟩)] w (AllPost11 w L) := by
  have hmf : ∀ (fn : Fn) (first cap : Array Value) (w : World), (Instr.makeFunc fn first cap).run Tryz.prog w = .ok (.func fn first cap) w := fun _ _ _ _ => rfl
  obtain ⟨w1, hw1⟩ : ∃ w1, w1 = w.alloc (.cells #[.slice none 0 0] 28) := ⟨_, rfl⟩
  have A1 : Hid (AllSt11 w L 1 w1) := Lib.hid (by
    rw [hw1]
    refine ⟨(Below.refl _ _).alloc (Nat.le_refl _) _, _, heap_alloc_new w _, ?_⟩
    rw [preN_one h.good]
    exact World.ownsRow_nil _ _ _ _)
  have H := Lib.hid h
  clear h
  go_enter Tryz.func34, Tryz.ntmps34
  go_wp2_with fail
  refine (isThere_ok b m w H.out.cell).mono ?_
  rintro e w' ⟨rfl, rfl⟩
  go_wp2_with fail
  rw [← hw1]
  clear hw1
  refine (each_ok 70 #[.pointer (some ⟨w.heap.size, 0, none⟩)] enters_All1 b m P (AllSt11 w L) _ (fun j V hV => ⟨(H.out.step hV.below).cell, (H.out.step hV.below).map⟩) (fun j p V _ _ hp hV => all_round H.out hV hp) (fun j V _ _ hp hV => ?_) A1.out).mono ?_
  · refine ⟨hV.below, ?_⟩
    rw [preN_no H.out.good (hno_of H.out hp)]
    exact hV.row
  rintro e w2 ⟨rfl, hb, v, h1, h2⟩
  rw [preN_nine H.out.good] at h2
  have B2 := Lib.hid hb
  have R2 := Lib.hid h2
  have c0 := cell_of_one h1
  clear hb h1 h2
  go_wp2
  go_ret
  exact ⟨_, rfl, R2.out, B2.out⟩
set_option maxHeartbeats 1000000 in
theorem add_raw (b m : Nat) (P : Pt) (id up q : Int) (w : World) (hc : w.cell? ⟨b, 0, none⟩ = some (.map (some m))) (hp : PtrsAt w m P) (hid : 1 ≤ id ∧ id ≤ 8) :
    Calls Tryz.prog 33 #[.pointer (some ⟨b, 0, none⟩), .int .i64 id, .int .i64 up, .int .i64 q] w fun e w' => e = .returned (.tuple #[]) ∧ PtrsAt w' m (updP P id (some w.heap.size)) ∧ w'.heap[w.heap.size]? = some (ndO (id, up, q, 0)) ∧ w.grownBy w' (some m) := by
  have hml := hp.lt
  obtain ⟨w1, hw1⟩ : ∃ w1, w1 = w.alloc (.cells #[.int .i64 id, .int .i64 up, .int .i64 q, .int .i64 0] 96) := ⟨_, rfl⟩
  have B1 : Hid (Below w.heap.size w w1) := Lib.hid (by rw [hw1]; exact (Below.refl _ _).alloc (Nat.le_refl _) _)
  have N1 : Hid (w1.heap[w.heap.size]? = some (ndO (id, up, q, 0))) := Lib.hid (by rw [hw1]; exact heap_alloc_new w _)
  have P1 : Hid (PtrsAt w1 m P) := Lib.hid (hp.same (B1.out.block m hml))
  rw [hw1] at P1
  have E1 := Lib.hid hw1
  clear hp hw1
  go_enter Tryz.func33, Tryz.ntmps33
  go_wp2_with (refine wpList_ptr_put _ rfl (.tmp 11) (.tmp 12) (.tmp 17) rfl m P rfl P1.out id rfl hid w.heap.size rfl ?_; intro w2 hp2 hg2; have P2 := Lib.hid hp2; have G2 := Lib.hid hg2; clear hp2 hg2)
  go_end0
  have hg : w1.grownBy w2 (some m) := by rw [E1.out]; exact G2.out
  exact ⟨rfl, P2.out, (hg.block _ (lt_of_block N1.out) (fun e => by have := Option.some.inj e; omega)).trans N1.out, grownBy_trans (grownBy_of_below B1.out _) hg⟩
theorem BudAt.add {w w' : World} {b m : Nat} {P : Pt} {L : List Nd} (h : BudAt w b m P L) {id up q : Int} (hno : atN id L = none) (hg : GoodU (insN (id, up, q, 0) L)) (h1 : PtrsAt w' m (updP P id (some w.heap.size))) (h2 : w'.heap[w.heap.size]? = some (ndO (id, up, q, 0))) (h3 : w.grownBy w' (some m)) :
    Turned w w' b m P (insN (id, up, q, 0) L) := by
  refine ⟨⟨_, ⟨(h3.block _ (lt_of_block h.box) (fun e => ?_)).trans h.box, h1, fun i e => ?_, fun i n e => ?_, hg⟩, fun i p e => ?_⟩, Only.grown h3 (Or.inl rfl)⟩
  · exact h.boxOut (Or.inl (Option.some.inj e))
  · rw [atN_insN (atN_none.1 hno)] at e
    split at e
    · cases e
    · rename_i hne
      rw [updP_other _ _ _ hne]
      exact h.out i e
  · rw [atN_insN (atN_none.1 hno)] at e
    split at e
    · rename_i he
      cases e
      exact ⟨w.heap.size, by rw [he]; exact updP_same _ _ _, h2⟩
    · rename_i hne
      obtain ⟨p, hp, hpn⟩ := h.inn i n e
      exact ⟨p, by rw [updP_other _ _ _ hne]; exact hp, (h3.block _ (lt_of_block hpn) (fun e => h.mapOut i (by rw [hp, Option.some.inj e]))).trans hpn⟩
  · by_cases hi : i = id
    · subst hi
      rw [updP_same] at e
      cases e
      exact Or.inr (Nat.le_refl _)
    · rw [updP_other _ _ _ hi] at e
      exact Or.inl e
end Go.Proofs.YtkenipanpimolaaGreatDoor

/- The contracts of package budget's New, Open, Charge, Refund. Condition: the budget lies as New laid it. -/
namespace Go.Proofs.YtkenipanpimolaaGreatDoor
open Go.RowKit Go.Maps
set_option maxRecDepth 100000

/-- One container is turned. -/
theorem BudAt.turn {w w' : World} {b m : Nat} {P : Pt} {L L' : List Nd} (h : BudAt w b m P L) {j : Int} {p : Nat} {x' : Nd} (hp : P j = some p) (hw : w'.heap[p]? = some (ndO x')) (hg : w.grownBy w' (some p)) (h1 : atN j L' = some x') (h2 : ∀ i, i ≠ j → atN i L' = atN i L) (h3 : GoodU L') : BudAt w' b m P L' := by
  have hbl : ¬ bB m P b := h.boxOut
  refine ⟨(hg.block _ (lt_of_block h.box) (fun e => hbl (Or.inr ⟨j, by rw [hp, Option.some.inj e]⟩))).trans h.box, h.map.same (hg.block _ h.map.lt (fun e => h.mapOut j (by rw [hp, Option.some.inj e]))), fun i e => ?_, fun i n e => ?_, h3⟩
  · by_cases hi : i = j
    · subst hi; rw [h1] at e; cases e
    · rw [h2 i hi] at e
      exact h.out i e
  · by_cases hi : i = j
    · subst hi
      rw [h1] at e
      cases e
      exact ⟨p, hp, hw⟩
    · rw [h2 i hi] at e
      obtain ⟨p', hp', hpn⟩ := h.inn i n e
      exact ⟨p', hp', (hg.block _ (lt_of_block hpn) (fun e2 => hi (h.inj hp' (by rw [hp, Option.some.inj e2])))).trans hpn⟩
theorem Turned.ahead {w w2 w3 : World} {b m : Nat} {P : Pt} {L' : List Nd} (hb : Below w.heap.size w w2) (T : Turned w2 w3 b m P L') : Turned w w3 b m P L' := by
  obtain ⟨⟨P', h1, h2⟩, h3⟩ := T
  exact ⟨⟨P', h1, fun i p e => (h2 i p e).imp id (Nat.le_trans hb.size)⟩, (Only.below hb).trans h3⟩
theorem Turned.node {w w' : World} {b m : Nat} {P : Pt} {L L' : List Nd} (h : BudAt w b m P L) {j : Int} {p : Nat} {x' : Nd} (hp : P j = some p) (hw : w'.heap[p]? = some (ndO x')) (hg : w.grownBy w' (some p)) (h1 : atN j L' = some x') (h2 : ∀ i, i ≠ j → atN i L' = atN i L) (h3 : GoodU L') : Turned w w' b m P L' :=
  ⟨⟨P, h.turn hp hw hg h1 h2 h3, fun _ _ e => Or.inl e⟩, Only.grown hg (Or.inr ⟨j, hp⟩)⟩

/-- A budget that New made. -/
structure Newed (q : Int) (W : World) (e : Ending) (w : World) : Prop where
  ex : ∃ b m P, e = .returned (.tuple #[.pointer (some ⟨b, 0, none⟩), .int .i64 0]) ∧ BudAt w b m P [(1, 0, q, 0)] ∧ W.heap.size ≤ b ∧ (∀ k, bB m P k → W.heap.size ≤ k)
  below : Below W.heap.size W w
set_option maxHeartbeats 1000000 in
theorem new11_ok (q : Int) (w : World) (h : numBU q = true) : Calls Tryz.prog 13 #[.int .i64 q] w (Newed q w) := by
  have h' : decide (0 ≤ q ∧ q ≤ 65536) = true := h
  have hq : 0 ≤ q ∧ q ≤ 65536 := by simpa using h'
  obtain ⟨w1, hw1⟩ : ∃ w1, w1 = (w.alloc (.map #[] 0)).alloc (.cells #[.map (some w.heap.size)] 88) := ⟨_, rfl⟩
  have B1 : Hid (Below w.heap.size w w1) := Lib.hid (by rw [hw1]; exact below_two _ _ _)
  have H1 : Hid (BudAt w1 (w.heap.size + 1) w.heap.size (fun _ => none) []) := Lib.hid (by
    rw [hw1]
    exact ⟨heap_alloc2_new _ _ _, (PtrsAt.made w).same (((Below.refl _ _).alloc (Nat.le_refl _) _).block _ (by simp)), fun _ _ => rfl, fun i n e => (by simp [atN] at e), by simp, by simp⟩)
  have HQ := Lib.hid hq
  have hmm := @run_makeMap Tryz.prog
  clear h hq
  go_enter Tryz.func13, Tryz.ntmps13
  go_wp2_with fail
  refine (isNumber_ok q w).mono ?_
  rw [h']
  rintro e w' ⟨rfl, rfl⟩
  go_wp2_with fail
  rw [← hw1]
  clear hw1
  refine (add_raw _ _ _ 1 0 q w1 H1.out.cell H1.out.map (by decide)).mono ?_
  rintro e w2 ⟨rfl, h1, h2, h3⟩
  have T := Lib.hid (H1.out.add (up := 0) (q := q) rfl (GoodU.one q HQ.out.1 HQ.out.2) h1 h2 h3)
  clear h1 h2 h3
  go_wp2
  go_ret2
  obtain ⟨⟨P', t1, t2⟩, t3⟩ := T.out
  refine ⟨⟨_, _, P', rfl, t1, by omega, fun k hk => ?_⟩, Only.old B1.out t3 B1.out.size (fun k hk => ?_)⟩
  · rcases hk with rfl | ⟨i, hi⟩
    · exact Nat.le_refl _
    · rcases t2 i k hi with e | e
      · cases e
      · exact Nat.le_trans B1.out.size e
  · rcases hk with rfl | ⟨i, hi⟩
    · exact Nat.le_refl _
    · cases hi

theorem ask_two {w : World} {b m : Nat} (q id up : Int) (g : Nat) (hc : w.cell? ⟨b, 0, none⟩ = some (.map (some m))) (hg : w.heap[g]? = some (.cells #[.int .i64 id, .int .i64 up] 3 (0, 0))) {er : Int} (he : askE true q [id, up] = er) :
    Calls Tryz.prog 53 #[.pointer (some ⟨b, 0, none⟩), .int .i64 q, .slice (some ⟨g, 0, none⟩) 2 2] w fun e w' => e = .returned (.int .i64 er) ∧ w = w' := by
  rw [← he]
  refine ask_anyU _ true q [id, up] g 2 w rfl (isThere_ok b m w hc) (by decide) (fun i hi => ?_)
  rcases (show i = 0 ∨ i = 1 by omega) with rfl | rfl <;> (rw [cell_of_row w g _ _ _ _ hg]; rfl)
theorem fit_two (q id up : Int) : askE true q [id, up] = if fitBU id q = true ∧ fitBU up q = true then 0 else 2 := by
  unfold askE
  rw [fitB_eq, fitB_eq, if_pos rfl]
  cases numBU q <;> cases h1 : idB id <;> cases h2 : idB up <;> simp [h1, h2]
set_option maxHeartbeats 2000000 in
theorem open11 {w : World} {b m : Nat} {P : Pt} {L : List Nd} (h : BudAt w b m P L) (id up q : Int) {er : Int} (he : openEU L id up q = er) :
    Calls Tryz.prog 21 #[.pointer (some ⟨b, 0, none⟩), .int .i64 id, .int .i64 up, .int .i64 q] w fun e w' => e = .returned (.int .i64 er) ∧ Turned w w' b m P (openL L id up q) := by
  obtain ⟨w1, hw1⟩ : ∃ w1, w1 = w.alloc (.cells #[.int .i64 id, .int .i64 up] 3) := ⟨_, rfl⟩
  have B1 : Hid (Below w.heap.size w w1) := Lib.hid (by rw [hw1]; exact (Below.refl _ _).alloc (Nat.le_refl _) _)
  have N1 : Hid (w1.heap[w.heap.size]? = some (.cells #[.int .i64 id, .int .i64 up] 3 (0, 0))) := Lib.hid (by rw [hw1]; exact heap_alloc_new w _)
  have H := Lib.hid h
  have H1 := Lib.hid (h.step B1.out)
  have ft := fit_two q id up
  have stay : ∀ w', er ≠ 0 → Below w.heap.size w w' → Turned w w' b m P (openL L id up q) := fun w' hne hb => by
    unfold openL
    rw [if_neg (by rw [he]; exact hne)]
    exact Turned.stay h hb
  have STAY := Lib.hid stay
  have HE := Lib.hid he
  clear h stay he
  by_cases hf : fitBU id q = true ∧ fitBU up q = true
  · rw [if_pos hf] at ft
    have FT := Lib.hid ft
    have b1 := (fitB_iff.1 hf.1).1
    have b2 := (fitB_iff.1 hf.2).1
    have HF := Lib.hid hf
    clear ft hf
    cases ha : atN up L with
    | none =>
      have e4 : er = 4 := by rw [← HE.out]; unfold openEU; rw [if_pos HF.out, if_pos ha]
      subst e4
      have HP := Lib.hid (H.out.out up ha)
      clear ha
      go_enter Tryz.func21, Tryz.ntmps21
      go_wp2_with fail
      rw [← hw1]
      clear hw1
      refine (ask_two q id up _ H1.out.cell N1.out FT.out).mono ?_
      rintro e w2 ⟨rfl, rfl⟩
      have c1 := H1.out.cell
      go_wp2_with (refine wpList_ok0 _ rfl (.tmp 25) (.tmp 26) rfl m P rfl H1.out.map up rfl (by omega) HP.out ?_)
      go_ret
      exact ⟨rfl, STAY.out _ (by decide) B1.out⟩
    | some n =>
      obtain ⟨p, hp, -⟩ := H.out.inn up n ha
      have HP := Lib.hid hp
      have hid := (atN_some ha).2
      have HA := Lib.hid ha
      clear ha hp
      cases hi : atN id L with
      | some x =>
        have e5 : er = 5 := by rw [← HE.out]; unfold openEU; rw [if_pos HF.out, if_neg (by rw [HA.out]; simp), if_pos (by rw [hi]; simp)]
        subst e5
        obtain ⟨p2, hp2, -⟩ := H.out.inn id x hi
        have HP2 := Lib.hid hp2
        clear hi hp2
        go_enter Tryz.func21, Tryz.ntmps21
        go_wp2_with fail
        rw [← hw1]
        clear hw1
        refine (ask_two q id up _ H1.out.cell N1.out FT.out).mono ?_
        rintro e w2 ⟨rfl, rfl⟩
        have c1 := H1.out.cell
        go_wp2_with (first | (refine wpList_ok1 _ rfl (.tmp 25) (.tmp 26) rfl m P rfl H1.out.map up rfl (by omega) p HP.out ?_) | (refine wpList_look1 _ rfl (.tmp 37) (.tmp 38) rfl m P rfl H1.out.map id rfl (by omega) p2 HP2.out ?_))
        go_ret
        exact ⟨rfl, STAY.out _ (by decide) B1.out⟩
      | none =>
        have HP2 := Lib.hid (H.out.out id hi)
        have HI := Lib.hid hi
        have HQ : Hid (P n.1 = some p) := Lib.hid (by rw [hid]; exact HP.out)
        have HN : Hid (atN n.1 L = some n) := Lib.hid (by rw [hid]; exact HA.out)
        have hlf : leftL L up = leftNU L n := by unfold leftL; rw [HA.out]; rfl
        have HLF := Lib.hid hlf
        obtain ⟨d, hd⟩ : ∃ d, leftNU L n = d := ⟨_, rfl⟩
        have HD := Lib.hid hd
        clear hi hlf hid hd
        by_cases hlt : d < q
        · have e3 : er = 3 := by rw [← HE.out]; unfold openEU; rw [if_pos HF.out, if_neg (by rw [HA.out]; simp), if_neg (by rw [HI.out]; simp), if_pos (by rw [HLF.out, HD.out]; exact hlt)]
          subst e3
          go_enter Tryz.func21, Tryz.ntmps21
          go_wp2_with fail
          rw [← hw1]
          clear hw1
          refine (ask_two q id up _ H1.out.cell N1.out FT.out).mono ?_
          rintro e w2 ⟨rfl, rfl⟩
          have c1 := H1.out.cell
          go_wp2_with (first | (refine wpList_ok1 _ rfl (.tmp 25) (.tmp 26) rfl m P rfl H1.out.map up rfl (by omega) p HP.out ?_) | (refine wpList_look0 _ rfl (.tmp 37) (.tmp 38) rfl m P rfl H1.out.map id rfl (by omega) HP2.out ?_) | (go_at_call 54; refine (left_okU H1.out HQ.out HN.out).mono ?_; rw [HD.out]; rintro e w3 ⟨rfl, hb⟩; have B3 := Lib.hid (B1.out.trans (hb.mono B1.out.size)); clear hb))
          go_ret
          exact ⟨rfl, STAY.out _ (by decide) B3.out⟩
        · have e0 : openEU L id up q = 0 := by unfold openEU; rw [if_pos HF.out, if_neg (by rw [HA.out]; simp), if_neg (by rw [HI.out]; simp), if_neg (by rw [HLF.out, HD.out]; exact hlt)]
          obtain rfl : er = 0 := by rw [← HE.out, e0]
          have hg : GoodU (openL L id up q) := H.out.good.open id up q
          have hol : openL L id up q = insN (id, up, q, 0) L := by unfold openL; rw [if_pos e0]
          rw [hol] at hg ⊢
          have HG := Lib.hid hg
          clear e0 hg hol
          go_enter Tryz.func21, Tryz.ntmps21
          go_wp2_with fail
          rw [← hw1]
          clear hw1
          refine (ask_two q id up _ H1.out.cell N1.out FT.out).mono ?_
          rintro e w2 ⟨rfl, rfl⟩
          have c1 := H1.out.cell
          go_wp2_with (first | (refine wpList_ok1 _ rfl (.tmp 25) (.tmp 26) rfl m P rfl H1.out.map up rfl (by omega) p HP.out ?_) | (refine wpList_look0 _ rfl (.tmp 37) (.tmp 38) rfl m P rfl H1.out.map id rfl (by omega) HP2.out ?_) | (go_at_call 54; refine (left_okU H1.out HQ.out HN.out).mono ?_; rw [HD.out]; rintro e w3 ⟨rfl, hb⟩; have B3 := Lib.hid (B1.out.trans (hb.mono B1.out.size)); have H3 := Lib.hid (H.out.step B3.out); clear hb) | (go_at_call 33; refine (add_raw b m P id up q w3 H3.out.cell H3.out.map b1).mono ?_; rintro e w4 ⟨rfl, h1, h2, h3⟩; have T4 := Lib.hid ((H3.out.add HI.out HG.out h1 h2 h3).ahead B3.out); clear h1 h2 h3))
          go_ret
          exact ⟨rfl, T4.out⟩
  · rw [if_neg hf] at ft
    have FT := Lib.hid ft
    have e2 : er = 2 := by rw [← HE.out]; unfold openEU; rw [if_neg hf]
    subst e2
    clear hf ft
    go_enter Tryz.func21, Tryz.ntmps21
    go_wp2_with fail
    rw [← hw1]
    clear hw1
    refine (ask_two q id up _ H1.out.cell N1.out FT.out).mono ?_
    rintro e w2 ⟨rfl, rfl⟩
    go_wp2
    go_ret
    exact ⟨rfl, STAY.out _ (by decide) B1.out⟩
end Go.Proofs.YtkenipanpimolaaGreatDoor

/- The contracts of package budget's Charge, Refund, Close. Condition: the budget lies as New laid it. -/
namespace Go.Proofs.YtkenipanpimolaaGreatDoor
open Go.RowKit Go.Maps
set_option maxRecDepth 100000

theorem setU_at {L : List Nd} {id d : Int} {x : Nd} (ha : atN id L = some x) : atN id (L.map (setU id d)) = some (x.1, x.2.1, x.2.2.1, x.2.2.2 + d) ∧ ∀ i, i ≠ id → atN i (L.map (setU id d)) = atN i L := by
  refine ⟨?_, fun i hi => ?_⟩
  · rw [atN_map (setU_id id d), ha, Option.map_some]
    unfold setU
    rw [if_pos (atN_some ha).2]
  · rw [atN_map (setU_id id d)]
    cases e : atN i L with
    | none => rfl
    | some y =>
      rw [Option.map_some]
      unfold setU
      rw [if_neg (by rw [(atN_some e).2]; exact hi)]
theorem used_set {w : World} {p : Nat} {x : Nd} {u : Int} (h : w.heap[p]? = some (ndO x)) : (w.setCell ⟨p, 3, none⟩ (.int .i64 u)).heap[p]? = some (ndO (x.1, x.2.1, x.2.2.1, u)) := heap_setCell_same w p 3 _ _ (.int .i64 u) h
set_option maxHeartbeats 2000000 in
theorem charge11 {w : World} {b m : Nat} {P : Pt} {L : List Nd} (h : BudAt w b m P L) (id n : Int) {er : Int} (he : chargeEU L id n = er) :
    Calls Tryz.prog 80 #[.pointer (some ⟨b, 0, none⟩), .int .i64 id, .int .i64 n] w fun e w' => e = .returned (.int .i64 er) ∧ Turned w w' b m P (chargeL L id n) := by
  have H := Lib.hid h
  have stay : ∀ w', er ≠ 0 → Below w.heap.size w w' → Turned w w' b m P (chargeL L id n) := fun w' hne hb => by
    unfold chargeL
    rw [if_neg (by rw [he]; exact hne)]
    exact Turned.stay h hb
  have STAY := Lib.hid stay
  clear h stay
  cases ha : atN id L with
  | none =>
    have hne : er ≠ 0 := fun e => by
      rw [e] at he
      obtain ⟨_, ⟨x, hx⟩, _⟩ := chargeEU_zero.1 he
      rw [ha] at hx
      cases hx
    have hof : ofEU L id n = er := by
      rw [← he]
      unfold ofEU chargeEU
      rw [if_pos ha, if_pos ha]
    have OF := Lib.hid (of_okU H.out id n hof (show ofP P er id = none by unfold ofP; rw [if_neg hne]))
    have hne2 : (er != 0) = true := by simpa using hne
    have HNE := Lib.hid hne
    clear he ha hof hne
    go_enter Tryz.func80, Tryz.ntmps80
    go_wp2_with fail
    refine OF.out.mono ?_
    rintro e w1 ⟨rfl, hb⟩
    have B1 := Lib.hid hb
    clear hb
    go_wp2
    go_ret
    exact ⟨rfl, STAY.out _ HNE.out B1.out⟩
  | some x =>
    obtain ⟨p, hp, -⟩ := H.out.inn id x ha
    have HP := Lib.hid hp
    have HA := Lib.hid ha
    cases hf : fitBU id n with
    | false =>
      have e2 : er = 2 := by rw [← he]; unfold chargeEU; rw [if_neg (by rw [hf]; decide)]
      subst e2
      have OF := Lib.hid (of_okU H.out id n (show ofEU L id n = 2 by unfold ofEU; rw [if_neg (by rw [hf]; decide)]) (show ofP P 2 id = none from rfl))
      clear he ha hp hf
      go_enter Tryz.func80, Tryz.ntmps80
      go_wp2_with fail
      refine OF.out.mono ?_
      rintro e w1 ⟨rfl, hb⟩
      have B1 := Lib.hid hb
      clear hb
      go_wp2
      go_ret
      exact ⟨rfl, STAY.out _ (by decide) B1.out⟩
    | true =>
      have OF := Lib.hid (of_okU H.out id n (show ofEU L id n = 0 by unfold ofEU; rw [if_pos hf, if_neg (by rw [ha]; simp)]) (show ofP P 0 id = some p by unfold ofP; rw [if_pos rfl]; exact hp))
      have hid := (atN_some ha).2
      have HQ : Hid (P x.1 = some p) := Lib.hid (by rw [hid]; exact hp)
      have HN : Hid (atN x.1 L = some x) := Lib.hid (by rw [hid]; exact ha)
      have hlf : leftL L id = leftNU L x := by unfold leftL; rw [ha]; rfl
      have HF := Lib.hid hf
      have hfn := (fitB_iff.1 hf).2
      obtain ⟨d, hd⟩ : ∃ d, leftNU L x = d := ⟨_, rfl⟩
      have HD := Lib.hid hd
      rw [hd] at hlf
      have HLF := Lib.hid hlf
      have HE := Lib.hid he
      have hok := H.out.good.ok x (atN_some ha).1
      clear he ha hp hid hf hd hlf
      by_cases hlt : d < n
      · have e3 : er = 3 := by rw [← HE.out]; unfold chargeEU; rw [if_pos HF.out, if_neg (by rw [HA.out]; simp), if_pos (by rw [HLF.out]; exact hlt)]
        subst e3
        go_enter Tryz.func80, Tryz.ntmps80
        go_wp2_with fail
        refine OF.out.mono ?_
        rintro e w1 ⟨rfl, hb⟩
        have B1 := Lib.hid hb
        have H1 := Lib.hid (H.out.step hb)
        clear hb
        unfold ptV
        go_wp2_with (go_at_call 54; refine (left_okU H1.out HQ.out HN.out).mono ?_; rw [HD.out]; rintro e w3 ⟨rfl, hb⟩; have B3 := Lib.hid (B1.out.trans (hb.mono B1.out.size)); clear hb)
        go_ret
        exact ⟨rfl, STAY.out _ (by decide) B3.out⟩
      · have e0 : chargeEU L id n = 0 := by unfold chargeEU; rw [if_pos HF.out, if_neg (by rw [HA.out]; simp), if_neg (by rw [HLF.out]; exact hlt)]
        obtain rfl : er = 0 := by rw [← HE.out, e0]
        have hg := H.out.good.charge id n
        have hcl : chargeL L id n = L.map (setU id n) := by unfold chargeL; rw [if_pos e0]
        rw [hcl] at hg ⊢
        have HG := Lib.hid hg
        have hw : IntKind.i64.wrap (x.2.2.2 + n) = x.2.2.2 + n := IntWalk.i64_in _ (by omega)
        clear e0 hg hcl
        go_enter Tryz.func80, Tryz.ntmps80
        go_wp2_with fail
        refine OF.out.mono ?_
        rintro e w1 ⟨rfl, hb⟩
        have B1 := Lib.hid hb
        have H1 := Lib.hid (H.out.step hb)
        clear hb
        unfold ptV
        go_wp2_with (go_at_call 54; refine (left_okU H1.out HQ.out HN.out).mono ?_; rw [HD.out]; rintro e w3 ⟨rfl, hb⟩; have B3 := Lib.hid (B1.out.trans (hb.mono B1.out.size)); have H3 := Lib.hid (H.out.step B3.out); clear hb; obtain ⟨x', hx', hpn⟩ := H3.out.node HP.out; obtain rfl : x = x' := (by rw [HA.out] at hx'; exact Option.some.inj hx'); have HPN := Lib.hid hpn; obtain ⟨-, -, -, a3, af⟩ := ndO_cells hpn; have f3 := af 3; clear hx' hpn af)
        go_ret
        exact ⟨rfl, Turned.ahead B3.out (Turned.node H3.out HP.out (used_set HPN.out) (grownBy_setCell _ _ _ _) (setU_at HA.out).1 (setU_at HA.out).2 HG.out)⟩
end Go.Proofs.YtkenipanpimolaaGreatDoor

/- The contract of package budget's Close. Condition: the budget lies as New laid it. -/
namespace Go.Proofs.YtkenipanpimolaaGreatDoor
open Go.RowKit Go.Maps
set_option maxRecDepth 100000

/-- The containers, those of numbers below one turned. -/
def cutF (id up j : Int) (n : Nd) : Nd := if n.1 < j then reUp id up n else n
def cutL (L : List Nd) (id up j : Int) : List Nd := (delN id L).map (cutF id up j)
/-- Close under way. -/
structure ClsSt (w : World) (b m : Nat) (P : Pt) (L : List Nd) (id : Int) (q bn : Nat) (n : Nd) (j : Int) (V : World) : Prop where
  st : BudAt V b m (updP P id none) (cutL L id (upN L id) j)
  only : Only w V (bB m P)
  gone : V.heap[q]? = some (ndO n)
  box : V.heap[w.heap.size]? = some (.cells #[.int .i64 id] 3 (0, 0))
  node : V.heap[bn]? = some (.cells #[.pointer (some ⟨q, 0, none⟩)] 120 (0, 0))
end Go.Proofs.YtkenipanpimolaaGreatDoor
