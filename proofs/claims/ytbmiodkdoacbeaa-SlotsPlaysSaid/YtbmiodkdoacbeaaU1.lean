/- Containers as rising lists: what is left of one, what each call answers and leaves. Nothing of a program. -/
import Derived.Test.YtbmiodkdoacbeaaA0
namespace Go.Proofs.Ytbmiodkdoacbeaa
open Go.RowKit
set_option maxRecDepth 100000

/-- A container: its number, the one that it is carved from, its quota, what is used. -/
abbrev Nd := Int × Int × Int × Int
/-- What is carved from one. -/
def sumUp (id : Int) : List Nd → Int
  | [] => 0
  | n :: r => (if n.2.1 = id then n.2.2.1 else 0) + sumUp id r
def atN (id : Int) : List Nd → Option Nd
  | [] => none
  | n :: r => if n.1 = id then some n else atN id r
def posN (id : Int) : List Nd → Nat
  | [] => 0
  | n :: r => if n.1 = id then 0 else posN id r + 1
def leftNU (L : List Nd) (n : Nd) : Int := n.2.2.1 - n.2.2.2 - sumUp n.1 L
def leftO (L : List Nd) : Option Nd → Int
  | none => 0
  | some n => leftNU L n
def leftL (L : List Nd) (id : Int) : Int := leftO L (atN id L)
def fitBU (id n : Int) : Bool := decide (1 ≤ id ∧ id ≤ 8) && decide (0 ≤ n ∧ n ≤ 65536)

theorem sumUp_append (id : Int) (A B : List Nd) : sumUp id (A ++ B) = sumUp id A + sumUp id B := by
  induction A with
  | nil => simp [sumUp]
  | cons n r ih => simp only [List.cons_append, sumUp, ih]; omega
theorem atN_some {id : Int} {n : Nd} : ∀ {L : List Nd}, atN id L = some n → n ∈ L ∧ n.1 = id
  | x :: r, h => by
    unfold atN at h
    split at h
    · rename_i e
      cases h
      exact ⟨by simp, e⟩
    · have := atN_some h
      exact ⟨List.mem_cons_of_mem _ this.1, this.2⟩
theorem atN_none {id : Int} : ∀ {L : List Nd}, atN id L = none ↔ ∀ n ∈ L, n.1 ≠ id
  | [] => by simp [atN]
  | x :: r => by
    unfold atN
    split
    · rename_i e
      simp [e]
    · rename_i e
      rw [atN_none]
      simp [e]
/-- Containers by rising numbers, each within its bounds. -/
abbrev okN (n : Nd) : Prop := (1 ≤ n.1 ∧ n.1 ≤ 8) ∧ (0 ≤ n.2.1 ∧ n.2.1 ≤ 8) ∧ (0 ≤ n.2.2.1 ∧ n.2.2.1 ≤ 65536) ∧ 0 ≤ n.2.2.2 ∧ n.2.2.2 ≤ 65536
structure GoodU (L : List Nd) : Prop where
  up : L.Pairwise (fun a b => a.1 < b.1)
  ok : ∀ n ∈ L, okN n
theorem atN_mem : ∀ {L : List Nd}, L.Pairwise (fun a b => a.1 < b.1) → ∀ {n : Nd}, n ∈ L → atN n.1 L = some n
  | x :: r, hp, n, h => by
    obtain ⟨h1, h2⟩ := List.pairwise_cons.1 hp
    unfold atN
    rcases List.mem_cons.1 h with rfl | h
    · rw [if_pos rfl]
    · have := h1 n h
      rw [if_neg (by omega)]
      exact atN_mem h2 h
theorem pos_at {id : Int} : ∀ {L : List Nd} {n : Nd}, atN id L = some n → posN id L < L.length ∧ L.getD (posN id L) default = n
  | x :: r, n, h => by
    unfold atN at h
    unfold posN
    split at h
    · rename_i e
      cases h
      rw [if_pos e]
      simp
    · rename_i e
      rw [if_neg e]
      have := pos_at h
      simpa using this
theorem pos_of {id : Int} : ∀ {L : List Nd} {j : Nat}, j < L.length → (∀ i, i < j → (L.getD i default).1 ≠ id) → (L.getD j default).1 = id → atN id L = some (L.getD j default) ∧ posN id L = j
  | x :: r, 0, _, _, h => by
    unfold atN posN
    simp only [List.getD_cons_zero] at h ⊢
    rw [if_pos h, if_pos h]
    exact ⟨rfl, rfl⟩
  | x :: r, j + 1, hj, hn, h => by
    have h0 := hn 0 (by omega)
    simp only [List.getD_cons_zero] at h0
    have := pos_of (L := r) (j := j) (by simpa using hj) (fun i hi => by have := hn (i + 1) (by omega); simpa using this) (by simpa using h)
    unfold atN posN
    rw [if_neg h0, if_neg h0, this.1, this.2]
    simp
theorem getD_memN {L : List Nd} {i : Nat} (h : i < L.length) : L.getD i default ∈ L := by
  rw [List.getD_eq_getElem?_getD, List.getElem?_eq_getElem h]; exact List.getElem_mem _
theorem none_of {id : Int} {L : List Nd} (h : ∀ i, i < L.length → (L.getD i default).1 ≠ id) : atN id L = none := by
  rw [atN_none]
  intro n hn
  obtain ⟨i, hi, rfl⟩ := List.getElem_of_mem hn
  have := h i hi
  rwa [List.getD_eq_getElem?_getD, List.getElem?_eq_getElem hi, Option.getD_some] at this
theorem getN_get {L : List Nd} {i : Nat} (h : i < L.length) : L[i]? = some (L.getD i default) := by
  rw [List.getD_eq_getElem?_getD, List.getElem?_eq_getElem h, Option.getD_some]
theorem take_snoc {L : List Nd} {i : Nat} (h : i < L.length) : L.take (i + 1) = L.take i ++ [L.getD i default] := by
  rw [List.take_succ_eq_append_getElem h, List.getD_eq_getElem?_getD, List.getElem?_eq_getElem h, Option.getD_some]
theorem sumUp_bounds (id : Int) : ∀ {L : List Nd}, (∀ n ∈ L, okN n) → 0 ≤ sumUp id L ∧ sumUp id L ≤ 65536 * L.length
  | [], _ => by simp [sumUp]
  | n :: r, h => by
    have h1 := sumUp_bounds id (L := r) (fun x hx => h x (List.mem_cons_of_mem _ hx))
    have h2 := h n (by simp)
    unfold sumUp
    simp only [List.length_cons]
    split <;> omega
theorem len_rise : ∀ {L : List Nd} {a : Int}, L.Pairwise (fun a b => a.1 < b.1) → (∀ n ∈ L, a ≤ n.1 ∧ n.1 ≤ 8) → a ≤ 9 → (L.length : Int) ≤ 9 - a
  | [], a, _, _, h => by simp; omega
  | n :: r, a, hp, h, _ => by
    obtain ⟨h1, h2⟩ := List.pairwise_cons.1 hp
    have hn := h n (by simp)
    have := len_rise (L := r) (a := n.1 + 1) h2 (fun x hx => ⟨by have := h1 x hx; omega, (h x (List.mem_cons_of_mem _ hx)).2⟩) (by omega)
    simp only [List.length_cons]
    omega
theorem GoodU.len {L : List Nd} (h : GoodU L) : L.length ≤ 8 := by
  have := len_rise (a := 1) h.up (fun n hn => (h.ok n hn).1) (by decide)
  omega
theorem GoodU.left {L : List Nd} (h : GoodU L) (id : Int) : -1000000 ≤ leftL L id ∧ leftL L id ≤ 65536 := by
  unfold leftL
  cases e : atN id L with
  | none => simp [leftO]
  | some n =>
    have h1 := h.ok n (atN_some e).1
    have h2 := sumUp_bounds n.1 h.ok
    have h3 := h.len
    simp only [leftO, leftNU]
    omega
theorem leftL_some {L : List Nd} {id : Int} {n : Nd} (h : atN id L = some n) : leftL L id = n.2.2.1 - n.2.2.2 - sumUp id L := by
  unfold leftL leftO leftNU
  rw [h]
  simp only [(atN_some h).2]

/-- The containers of numbers below one. -/
def preN (j : Int) (L : List Nd) : List Nd := L.filter fun n => decide (n.1 < j)
theorem preN_one {L : List Nd} (h : GoodU L) : preN 1 L = [] := by
  unfold preN
  rw [List.filter_eq_nil_iff]
  intro n hn
  have := (h.ok n hn).1
  simp; omega
theorem preN_nine {L : List Nd} (h : GoodU L) : preN 9 L = L := by
  unfold preN
  rw [List.filter_eq_self]
  intro n hn
  have := (h.ok n hn).1
  simp; omega
theorem preN_succ (j : Int) : ∀ {L : List Nd}, L.Pairwise (fun a b => a.1 < b.1) → preN (j + 1) L = preN j L ++ (atN j L).toList
  | [], _ => by simp [preN, atN]
  | n :: r, hp => by
    obtain ⟨h1, h2⟩ := List.pairwise_cons.1 hp
    have ih := preN_succ j h2
    unfold preN at ih ⊢
    unfold atN
    by_cases c1 : n.1 < j
    · rw [List.filter_cons_of_pos (by simp; omega), List.filter_cons_of_pos (by simpa using c1), if_neg (by omega), ih]
      rfl
    · have hr : r.filter (fun n => decide (n.1 < j)) = [] := by
        rw [List.filter_eq_nil_iff]
        intro x hx
        have := h1 x hx
        simp; omega
      by_cases c2 : n.1 = j
      · have hr1 : r.filter (fun n => decide (n.1 < j + 1)) = [] := by
          rw [List.filter_eq_nil_iff]
          intro x hx
          have := h1 x hx
          simp; omega
        rw [List.filter_cons_of_pos (by simp; omega), List.filter_cons_of_neg (by simpa using c1), if_pos c2, hr, hr1]
        rfl
      · have hr1 : r.filter (fun n => decide (n.1 < j + 1)) = [] := by
          rw [List.filter_eq_nil_iff]
          intro x hx
          have := h1 x hx
          simp; omega
        have hrn : atN j r = none := by
          rw [atN_none]
          intro x hx
          have := h1 x hx
          omega
        rw [List.filter_cons_of_neg (by simp; omega), List.filter_cons_of_neg (by simpa using c1), if_neg c2, hr, hr1, hrn]
        rfl
theorem preN_some {L : List Nd} (h : GoodU L) {j : Int} {n : Nd} (e : atN j L = some n) : preN (j + 1) L = preN j L ++ [n] := by rw [preN_succ j h.up, e]; rfl
theorem preN_no {L : List Nd} (h : GoodU L) {j : Int} (e : atN j L = none) : preN (j + 1) L = preN j L := by rw [preN_succ j h.up, e]; simp

/-- A container more. -/
def insN (x : Nd) : List Nd → List Nd
  | [] => [x]
  | n :: r => if n.1 < x.1 then n :: insN x r else x :: n :: r
theorem mem_insN {x n : Nd} : ∀ {L : List Nd}, n ∈ insN x L ↔ n = x ∨ n ∈ L
  | [] => by simp [insN]
  | y :: r => by
    unfold insN
    split
    · rw [List.mem_cons, mem_insN, List.mem_cons]
      constructor
      · rintro (h | h | h) <;> simp [h]
      · rintro (h | h | h) <;> simp [h]
    · simp
theorem insN_rise {x : Nd} : ∀ {L : List Nd}, L.Pairwise (fun a b => a.1 < b.1) → (∀ n ∈ L, n.1 ≠ x.1) → (insN x L).Pairwise (fun a b => a.1 < b.1)
  | [], _, _ => by simp [insN]
  | y :: r, hp, hn => by
    obtain ⟨h1, h2⟩ := List.pairwise_cons.1 hp
    have hy := hn y (by simp)
    unfold insN
    split
    · rename_i c
      refine List.pairwise_cons.2 ⟨fun z hz => ?_, insN_rise h2 (fun n h => hn n (List.mem_cons_of_mem _ h))⟩
      rcases mem_insN.1 hz with rfl | hz
      · exact c
      · exact h1 z hz
    · rename_i c
      refine List.pairwise_cons.2 ⟨fun z hz => ?_, hp⟩
      rcases List.mem_cons.1 hz with rfl | hz
      · omega
      · have := h1 z hz
        omega
theorem atN_insN {x : Nd} {i : Int} : ∀ {L : List Nd}, (∀ n ∈ L, n.1 ≠ x.1) → atN i (insN x L) = if i = x.1 then some x else atN i L
  | [], _ => by
    unfold insN atN
    by_cases h : x.1 = i
    · rw [if_pos h, if_pos h.symm]
    · rw [if_neg h, if_neg (fun e => h e.symm)]; rfl
  | y :: r, hn => by
    have hy := hn y (by simp)
    have ih := atN_insN (x := x) (i := i) (L := r) (fun n h => hn n (List.mem_cons_of_mem _ h))
    unfold insN
    split
    · simp only [atN]
      rw [ih]
      by_cases h : y.1 = i
      · rw [if_pos h, if_neg (by omega), if_pos h]
      · rw [if_neg h]
        by_cases h2 : i = x.1
        · rw [if_pos h2, if_pos h2]
        · rw [if_neg h2, if_neg h2, if_neg h]
    · simp only [atN]
      by_cases h2 : i = x.1
      · rw [if_pos h2.symm, if_pos h2]
      · rw [if_neg (fun e => h2 e.symm), if_neg h2]
theorem insN_cut {x : Nd} : ∀ {L : List Nd} {k : Nat}, k ≤ L.length → (∀ i, i < k → (L.getD i default).1 < x.1) → (k < L.length → ¬ (L.getD k default).1 < x.1) → insN x L = L.take k ++ [x] ++ L.drop k
  | [], k, hk, _, _ => by
    obtain rfl : k = 0 := by simpa using hk
    rfl
  | y :: r, 0, _, _, h => by
    have := h (by simp)
    simp only [List.getD_cons_zero] at this
    unfold insN
    rw [if_neg this]
    rfl
  | y :: r, k + 1, hk, h1, h2 => by
    have h0 := h1 0 (by omega)
    simp only [List.getD_cons_zero] at h0
    have := insN_cut (x := x) (L := r) (k := k) (by simpa using hk) (fun i hi => by have := h1 (i + 1) (by omega); simpa using this) (fun hl => by have := h2 (by simpa using hl); simpa using this)
    unfold insN
    rw [if_pos h0, this]
    rfl
theorem sumUp_insN (i : Int) (x : Nd) : ∀ (L : List Nd), sumUp i (insN x L) = (if x.2.1 = i then x.2.2.1 else 0) + sumUp i L
  | [] => rfl
  | y :: r => by
    unfold insN
    split
    · simp only [sumUp, sumUp_insN i x r]; omega
    · rfl
/-- The containers, each turned, its number kept. -/
theorem atN_map {f : Nd → Nd} (hf : ∀ n, (f n).1 = n.1) (i : Int) : ∀ (L : List Nd), atN i (L.map f) = (atN i L).map f
  | [] => rfl
  | y :: r => by
    simp only [List.map_cons, atN, hf]
    split
    · rfl
    · exact atN_map hf i r
theorem map_rise {f : Nd → Nd} (hf : ∀ n, (f n).1 = n.1) {L : List Nd} (h : L.Pairwise (fun a b => a.1 < b.1)) : (L.map f).Pairwise (fun a b => a.1 < b.1) := by
  rw [List.pairwise_map]
  exact h.imp fun {a b} h => by rw [hf, hf]; exact h
theorem posN_map {f : Nd → Nd} (hf : ∀ n, (f n).1 = n.1) (i : Int) : ∀ (L : List Nd), posN i (L.map f) = posN i L
  | [] => rfl
  | y :: r => by
    simp only [List.map_cons, posN, hf]
    rw [posN_map hf i r]
/-- A container less. -/
def delN (id : Int) (L : List Nd) : List Nd := L.filter fun n => n.1 != id
theorem mem_delN {id : Int} {L : List Nd} {n : Nd} : n ∈ delN id L ↔ n ∈ L ∧ n.1 ≠ id := by unfold delN; rw [List.mem_filter]; simp
theorem atN_delN (id i : Int) : ∀ (L : List Nd), atN i (delN id L) = if i = id then none else atN i L
  | [] => by simp [delN, atN]
  | y :: r => by
    have ih := atN_delN id i r
    unfold delN at ih ⊢
    by_cases c : y.1 = id
    · rw [List.filter_cons_of_neg (by simpa using c), ih]
      by_cases h : i = id
      · rw [if_pos h, if_pos h]
      · rw [if_neg h, if_neg h, atN, if_neg (by omega)]
    · rw [List.filter_cons_of_pos (by simpa using c), atN, ih, atN]
      by_cases h : i = id
      · rw [if_neg (by omega), if_pos h, if_pos h]
      · rw [if_neg h, if_neg h]
theorem delN_rise {id : Int} {L : List Nd} (h : L.Pairwise (fun a b => a.1 < b.1)) : (delN id L).Pairwise (fun a b => a.1 < b.1) := h.filter _
theorem delN_insN {x : Nd} : ∀ {L : List Nd}, (∀ n ∈ L, n.1 ≠ x.1) → delN x.1 (insN x L) = L
  | [], _ => by simp [insN, delN]
  | y :: r, hn => by
    have hy := hn y (by simp)
    have ih := delN_insN (x := x) (L := r) (fun n h => hn n (List.mem_cons_of_mem _ h))
    have hself : ∀ {L : List Nd}, (∀ n ∈ L, n.1 ≠ x.1) → delN x.1 L = L := fun h => by
      unfold delN
      rw [List.filter_eq_self]
      intro n hm
      simpa using h n hm
    unfold insN
    split
    · unfold delN at ih ⊢
      rw [List.filter_cons_of_pos (by simpa using hy), ih]
    · have := hself hn
      unfold delN at this ⊢
      rw [List.filter_cons_of_neg (by simp), this]

/-! What each call answers, and leaves. -/
def openEU (L : List Nd) (id up q : Int) : Int := if fitBU id q = true ∧ fitBU up q = true then (if atN up L = none then 4 else if atN id L ≠ none then 5 else if leftL L up < q then 3 else 0) else 2
def openL (L : List Nd) (id up q : Int) : List Nd := if openEU L id up q = 0 then insN (id, up, q, 0) L else L
def closeEU (L : List Nd) (id : Int) : Int := if fitBU id 0 = true then (match atN id L with | none => 4 | some n => if id = 1 ∨ n.2.2.2 ≠ 0 then 9 else 0) else 2
def reUp (id up : Int) (n : Nd) : Nd := if n.2.1 = id then (n.1, up, n.2.2) else n
def upN (L : List Nd) (id : Int) : Int := ((atN id L).getD default).2.1
def closeL (L : List Nd) (id : Int) : List Nd := if closeEU L id = 0 then (delN id L).map (reUp id (upN L id)) else L
def setU (id d : Int) (n : Nd) : Nd := if n.1 = id then (n.1, n.2.1, n.2.2.1, n.2.2.2 + d) else n
def chargeEU (L : List Nd) (id n : Int) : Int := if fitBU id n = true then (if atN id L = none then 4 else if leftL L id < n then 3 else 0) else 2
def chargeL (L : List Nd) (id n : Int) : List Nd := if chargeEU L id n = 0 then L.map (setU id n) else L
def refundEU (L : List Nd) (id n : Int) : Int := if fitBU id n = true then (match atN id L with | none => 4 | some x => if x.2.2.2 < n then 9 else 0) else 2
def refundL (L : List Nd) (id n : Int) : List Nd := if refundEU L id n = 0 then L.map (setU id (-n)) else L

theorem fitB_iff {id n : Int} : fitBU id n = true ↔ (1 ≤ id ∧ id ≤ 8) ∧ 0 ≤ n ∧ n ≤ 65536 := by unfold fitBU; simp
theorem reUp_id (id up : Int) (n : Nd) : (reUp id up n).1 = n.1 := by unfold reUp; split <;> rfl
theorem setU_id (id d : Int) (n : Nd) : (setU id d n).1 = n.1 := by unfold setU; split <;> rfl
theorem openEU_zero {L : List Nd} {id up q : Int} : openEU L id up q = 0 ↔ (fitBU id q = true ∧ fitBU up q = true) ∧ (∃ n, atN up L = some n) ∧ atN id L = none ∧ q ≤ leftL L up := by
  unfold openEU
  constructor
  · intro h
    split at h
    · rename_i h1
      split at h
      · cases h
      · rename_i h2
        split at h
        · cases h
        · rename_i h3
          split at h
          · cases h
          · rename_i h4
            refine ⟨h1, ?_, by simpa using h3, by omega⟩
            cases e : atN up L with
            | none => exact absurd e h2
            | some n => exact ⟨n, rfl⟩
    · cases h
  · rintro ⟨h1, ⟨n, h2⟩, h3, h4⟩
    rw [if_pos h1, if_neg (by rw [h2]; simp), if_neg (by rw [h3]; simp), if_neg (by omega)]
theorem closeEU_zero {L : List Nd} {id : Int} : closeEU L id = 0 ↔ fitBU id 0 = true ∧ id ≠ 1 ∧ ∃ n, atN id L = some n ∧ n.2.2.2 = 0 := by
  unfold closeEU
  constructor
  · intro h
    split at h
    · rename_i h1
      split at h
      · cases h
      · rename_i n h2
        split at h
        · cases h
        · rename_i h3
          exact ⟨h1, by omega, n, h2, by omega⟩
    · cases h
  · rintro ⟨h1, h2, n, h3, h4⟩
    rw [if_pos h1, h3]
    simp [h2, h4]
theorem chargeEU_zero {L : List Nd} {id n : Int} : chargeEU L id n = 0 ↔ fitBU id n = true ∧ (∃ x, atN id L = some x) ∧ n ≤ leftL L id := by
  unfold chargeEU
  constructor
  · intro h
    split at h
    · rename_i h1
      split at h
      · cases h
      · rename_i h2
        split at h
        · cases h
        · rename_i h3
          refine ⟨h1, ?_, by omega⟩
          cases e : atN id L with
          | none => exact absurd e h2
          | some n => exact ⟨n, rfl⟩
    · cases h
  · rintro ⟨h1, ⟨x, h2⟩, h3⟩
    rw [if_pos h1, if_neg (by rw [h2]; simp), if_neg (by omega)]
theorem refundEU_zero {L : List Nd} {id n : Int} : refundEU L id n = 0 ↔ fitBU id n = true ∧ ∃ x, atN id L = some x ∧ n ≤ x.2.2.2 := by
  unfold refundEU
  constructor
  · intro h
    split at h
    · rename_i h1
      split at h
      · cases h
      · rename_i x h2
        split at h
        · cases h
        · rename_i h3
          exact ⟨h1, x, h2, by omega⟩
    · cases h
  · rintro ⟨h1, x, h2, h3⟩
    rw [if_pos h1, h2]
    simp; omega
theorem GoodU.one (q : Int) (h0 : 0 ≤ q) (h1 : q ≤ 65536) : GoodU [(1, 0, q, 0)] := ⟨by simp, fun n hn => by simp only [List.mem_singleton] at hn; subst hn; dsimp only [okN]; omega⟩
theorem GoodU.open {L : List Nd} (h : GoodU L) (id up q : Int) : GoodU (openL L id up q) := by
  unfold openL
  split
  · rename_i e
    obtain ⟨⟨h1, h2⟩, _, h3, _⟩ := openEU_zero.1 e
    rw [fitB_iff] at h1 h2
    refine ⟨insN_rise h.up (atN_none.1 h3), fun n hn => ?_⟩
    rcases mem_insN.1 hn with rfl | hn
    · simp only [okN]; omega
    · exact h.ok n hn
  · exact h
theorem upN_bounds {L : List Nd} (h : GoodU L) (id : Int) : 0 ≤ upN L id ∧ upN L id ≤ 8 := by
  unfold upN
  cases e : atN id L with
  | none => exact ⟨by decide, by decide⟩
  | some n => exact (h.ok n (atN_some e).1).2.1
theorem GoodU.close {L : List Nd} (h : GoodU L) (id : Int) : GoodU (closeL L id) := by
  unfold closeL
  split
  · refine ⟨map_rise (reUp_id _ _) (delN_rise h.up), fun n hn => ?_⟩
    obtain ⟨m, hm, rfl⟩ := List.mem_map.1 hn
    have := h.ok m (mem_delN.1 hm).1
    have hu := upN_bounds h id
    unfold reUp
    split
    · exact ⟨this.1, hu, this.2.2⟩
    · exact this
  · exact h
theorem GoodU.charge {L : List Nd} (h : GoodU L) (id n : Int) : GoodU (chargeL L id n) := by
  unfold chargeL
  split
  · rename_i e
    obtain ⟨h1, ⟨x, h2⟩, h3⟩ := chargeEU_zero.1 e
    rw [fitB_iff] at h1
    refine ⟨map_rise (setU_id _ _) h.up, fun y hy => ?_⟩
    obtain ⟨m, hm, rfl⟩ := List.mem_map.1 hy
    have := h.ok m hm
    unfold setU
    split
    · rename_i e2
      have hx := atN_mem h.up hm
      rw [e2, h2] at hx
      cases hx
      rw [leftL_some h2] at h3
      have := sumUp_bounds id h.ok
      simp only [okN] at *
      omega
    · exact this
  · exact h
theorem GoodU.refund {L : List Nd} (h : GoodU L) (id n : Int) : GoodU (refundL L id n) := by
  unfold refundL
  split
  · rename_i e
    obtain ⟨h1, x, h2, h3⟩ := refundEU_zero.1 e
    rw [fitB_iff] at h1
    refine ⟨map_rise (setU_id _ _) h.up, fun y hy => ?_⟩
    obtain ⟨m, hm, rfl⟩ := List.mem_map.1 hy
    have := h.ok m hm
    unfold setU
    split
    · rename_i e2
      have hx := atN_mem h.up hm
      rw [e2, h2] at hx
      cases hx
      simp only [okN] at *
      omega
    · exact this
  · exact h

/-! Containers as a row of cells. -/
def ndV (n : Nd) : List Value := [.int .i64 n.1, .int .i64 n.2.1, .int .i64 n.2.2.1, .int .i64 n.2.2.2]
def ndsV (L : List Nd) : List Value := L.flatMap ndV
theorem ndsV_append (A B : List Nd) : ndsV (A ++ B) = ndsV A ++ ndsV B := by simp [ndsV]
theorem ndsV_one (n : Nd) : ndsV [n] = ndV n := by simp [ndsV]
theorem ndsV_length (L : List Nd) : (ndsV L).length = L.length * 4 := by
  induction L with
  | nil => rfl
  | cons y l ih => simp only [ndsV, ndV, List.flatMap_cons, List.length_append, List.length_cons, List.length_nil] at ih ⊢; omega
theorem ndsV_get : ∀ (L : List Nd) (i : Nat), i < L.length → (ndsV L)[i * 4]? = some (.int .i64 (L.getD i default).1) ∧ (ndsV L)[i * 4 + 1]? = some (.int .i64 (L.getD i default).2.1) ∧ (ndsV L)[i * 4 + 2]? = some (.int .i64 (L.getD i default).2.2.1) ∧ (ndsV L)[i * 4 + 3]? = some (.int .i64 (L.getD i default).2.2.2)
  | y :: l, 0, _ => by simp [ndsV, ndV]
  | y :: l, i + 1, h => by
    obtain ⟨a, b, c, d⟩ := ndsV_get l i (by simpa using h)
    have e : ndsV (y :: l) = ndV y ++ ndsV l := by simp [ndsV]
    have hl : (ndV y).length = 4 := rfl
    rw [e]
    refine ⟨?_, ?_, ?_, ?_⟩ <;> rw [List.getElem?_append_right (by rw [hl]; omega), hl]
    · rw [show (i + 1) * 4 - 4 = i * 4 by omega, a]; simp
    · rw [show (i + 1) * 4 + 1 - 4 = i * 4 + 1 by omega, b]; simp
    · rw [show (i + 1) * 4 + 2 - 4 = i * 4 + 2 by omega, c]; simp
    · rw [show (i + 1) * 4 + 3 - 4 = i * 4 + 3 by omega, d]; simp
theorem ndsV_one' {L : List Nd} : ∀ u ∈ ndsV L, u.oneCell' = true := fun u hu => by
  obtain ⟨y, _, hy⟩ := List.mem_flatMap.1 hu
  simp only [ndV, List.mem_cons, List.not_mem_nil, or_false] at hy
  rcases hy with rfl | rfl | rfl | rfl <;> rfl
theorem ndsV_take (L : List Nd) (i : Nat) (hi : i ≤ L.length) : (ndsV L).take (i * 4) = ndsV (L.take i) := by
  have e : ndsV L = ndsV (L.take i) ++ ndsV (L.drop i) := by rw [← ndsV_append, List.take_append_drop]
  have hl : (ndsV (L.take i)).length = i * 4 := by rw [ndsV_length, List.length_take]; omega
  rw [e, ← hl, List.take_left]
theorem ndsV_drop (L : List Nd) (i : Nat) (hi : i ≤ L.length) : (ndsV L).drop (i * 4) = ndsV (L.drop i) := by
  have e : ndsV L = ndsV (L.take i) ++ ndsV (L.drop i) := by rw [← ndsV_append, List.take_append_drop]
  have hl : (ndsV (L.take i)).length = i * 4 := by rw [ndsV_length, List.length_take]; omega
  conv => lhs; rw [e, ← hl]
  rw [List.drop_left]
theorem ndsV_set (L : List Nd) (i : Nat) (n : Nd) (u : Int) (hi : i < L.length) (hn : L.getD i default = n) : ndsV (L.set i (n.1, n.2.1, n.2.2.1, u)) = (ndsV L).set (i * 4 + 3) (.int .i64 u) := by
  induction L generalizing i with
  | nil => simp at hi
  | cons y l ih =>
    cases i with
    | zero =>
      simp only [List.getD_cons_zero] at hn
      subst hn
      simp [ndsV, ndV]
    | succ i =>
      have := ih i (by simpa using hi) (by simpa using hn)
      have e : ∀ (z : Nd) (r : List Nd), ndsV (z :: r) = ndV z ++ ndsV r := fun z r => by simp [ndsV]
      rw [List.set_cons_succ, e, this, e, List.set_append_right _ _ (by simp [ndV]; omega)]
      congr 2
      simp [ndV]; omega
theorem map_setU (id d : Int) : ∀ {L : List Nd}, L.Pairwise (fun a b => a.1 < b.1) → ∀ {n : Nd}, atN id L = some n → L.map (setU id d) = L.set (posN id L) (n.1, n.2.1, n.2.2.1, n.2.2.2 + d)
  | y :: r, hp, n, h => by
    obtain ⟨h1, h2⟩ := List.pairwise_cons.1 hp
    unfold atN at h
    unfold posN
    split at h
    · rename_i e
      cases h
      rw [if_pos e, List.set_cons_zero, List.map_cons]
      have : r.map (setU id d) = r := by
        conv => rhs; rw [← List.map_id r]
        apply List.map_congr_left
        intro x hx
        have := h1 x hx
        unfold setU
        rw [if_neg (by omega)]; rfl
      rw [this]
      unfold setU
      rw [if_pos e]
    · rename_i e
      rw [if_neg e, List.set_cons_succ, List.map_cons, map_setU id d h2 h]
      unfold setU
      rw [if_neg e]
end Go.Proofs.Ytbmiodkdoacbeaa
