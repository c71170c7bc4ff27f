/- Queues as lists: rows of numbers from 1 to 8, each at most once; an array that goes round; what each call answers. Nothing of a program's functions. -/
import Derived.Test.YtmkoflmhopefhaaA0
namespace Go.Proofs.Ytmkoflmhopefhaa
open Go.RowKit
set_option maxRecDepth 100000

/-- A number that may be. -/
def numV (n : Int) : Bool := decide (1 ≤ n) && decide (n ≤ 8)
theorem numV_iff (n : Int) : numV n = true ↔ 1 ≤ n ∧ n ≤ 8 := by simp [numV]
theorem numV_ways (n : Int) : (numV n = false ∧ (n < 1 ∨ (1 ≤ n ∧ 8 < n))) ∨ (numV n = true ∧ 1 ≤ n ∧ n ≤ 8) := by
  cases h : numV n with
  | false =>
    refine Or.inl ⟨rfl, ?_⟩
    have : ¬ numV n = true := by rw [h]; exact Bool.false_ne_true
    rw [numV_iff] at this
    omega
  | true => exact Or.inr ⟨rfl, (numV_iff n).1 h⟩
/-- A row as a queue may have it. -/
structure GoodV (L : List Int) : Prop where
  once : L.Nodup
  num : ∀ x ∈ L, 1 ≤ x ∧ x ≤ 8
theorem GoodV.nil : GoodV [] := ⟨List.nodup_nil, by simp⟩
theorem GoodV.isNum {L : List Int} (h : GoodV L) {x : Int} (hx : x ∈ L) : numV x = true := (numV_iff x).2 (h.num x hx)
theorem GoodV.length {L : List Int} (h : GoodV L) : L.length ≤ 8 := by
  have h1 : (L.map fun x => (x - 1).toNat).Pairwise (· ≠ ·) := by
    refine List.pairwise_map.2 ?_
    refine (List.nodup_iff_pairwise_ne.1 h.once).imp_of_mem fun {a b} ha hb hne e => hne ?_
    have := h.num a ha
    have := h.num b hb
    omega
  have h2 := nodup_bound 8 _ h1 (fun x hx => by
    obtain ⟨y, hy, rfl⟩ := List.mem_map.1 hx
    have := h.num y hy
    omega)
  rwa [List.length_map] at h2
theorem GoodV.snoc {L : List Int} (h : GoodV L) {n : Int} (hn : numV n = true) (hm : n ∉ L) : GoodV (L ++ [n]) := by
  refine ⟨?_, fun x hx => ?_⟩
  · rw [List.nodup_append]
    refine ⟨h.once, by simp, fun a ha b hb e => ?_⟩
    simp only [List.mem_singleton] at hb
    subst hb; subst e; exact hm ha
  · rcases List.mem_append.1 hx with hx | hx
    · exact h.num x hx
    · simp only [List.mem_singleton] at hx
      subst hx; exact (numV_iff _).1 hn
theorem GoodV.room {L : List Int} (h : GoodV L) {n : Int} (hn : numV n = true) (hm : n ∉ L) : L.length < 8 := by
  have := (h.snoc hn hm).length
  rw [List.length_append, List.length_singleton] at this
  omega
theorem GoodV.tail {x : Int} {r : List Int} (h : GoodV (x :: r)) : GoodV r := ⟨(List.nodup_cons.1 h.once).2, fun y hy => h.num y (by simp [hy])⟩
theorem GoodV.head {x : Int} {r : List Int} (h : GoodV (x :: r)) : x ∉ r := (List.nodup_cons.1 h.once).1
theorem GoodV.filter {L : List Int} (h : GoodV L) (p : Int → Bool) : GoodV (L.filter p) := ⟨h.once.filter p, fun x hx => h.num x (List.mem_filter.1 hx).1⟩
theorem GoodV.of_perm {L K : List Int} (h : GoodV L) (hp : L.Perm K) : GoodV K := ⟨(hp.nodup_iff).1 h.once, fun x hx => h.num x (hp.mem_iff.2 hx)⟩

/-- What each call answers, and what the row is then. -/
def pushE (L : List Int) (n : Int) : Int := if numV n then (if n ∈ L then 5 else 0) else 2
def pushL (L : List Int) (n : Int) : List Int := if numV n then (if n ∈ L then L else L ++ [n]) else L
def dropEV (L : List Int) (n : Int) : Int := if numV n then (if n ∈ L then 0 else 4) else 2
def dropLV (L : List Int) (n : Int) : List Int := if numV n then L.filter (· != n) else L
def popA : List Int → Int × Int × List Int
  | [] => (0, 4, [])
  | n :: r => (n, 0, r)
def turnA : List Int → Int × List Int
  | [] => (4, [])
  | n :: r => (0, r ++ [n])
def headA : List Int → Int × Bool
  | [] => (0, false)
  | n :: _ => (n, true)
theorem GoodV.push {L : List Int} (h : GoodV L) (n : Int) : GoodV (pushL L n) := by
  unfold pushL
  split
  · split
    · exact h
    · rename_i h1 h2; exact h.snoc h1 h2
  · exact h
theorem GoodV.drop {L : List Int} (h : GoodV L) (n : Int) : GoodV (dropLV L n) := by
  unfold dropLV
  split
  · exact h.filter _
  · exact h
theorem GoodV.turn {L : List Int} (h : GoodV L) : GoodV (turnA L).2 := by
  cases L with
  | nil => exact h
  | cons x r => exact h.of_perm (by simpa [turnA] using (List.perm_append_singleton x r).symm)
theorem pushL_length (L : List Int) (n : Int) : (pushL L n).length ≤ L.length + 1 := by
  unfold pushL
  split
  · split <;> simp
  · simp

/-- Where a number stands in a row: so far behind the head; behind all, if nowhere. -/
def FoundV (L : List Int) (n : Int) (k : Nat) : Prop := k ≤ L.length ∧ n ∉ L.take k ∧ (k < L.length → L.getD k 0 = n)
theorem getD_memV {L : List Int} {i : Nat} (h : i < L.length) : L.getD i 0 ∈ L := by
  rw [List.getD_eq_getElem?_getD, List.getElem?_eq_getElem h]; exact List.getElem_mem _
theorem FoundV.there {L : List Int} {n : Int} {k : Nat} (h : FoundV L n k) (hk : k < L.length) : n ∈ L := by rw [← h.2.2 hk]; exact getD_memV hk
theorem FoundV.none {L : List Int} {n : Int} {k : Nat} (h : FoundV L n k) (hk : ¬ k < L.length) : n ∉ L := by
  have h1 : k = L.length := by have := h.1; omega
  have := h.2.1
  rwa [h1, List.take_length] at this
theorem splitV (L : List Int) (k : Nat) (h : k < L.length) : L = L.take k ++ L.getD k 0 :: L.drop (k + 1) := by
  rw [List.getD_eq_getElem?_getD, List.getElem?_eq_getElem h, Option.getD_some, ← List.drop_eq_getElem_cons h, List.take_append_drop]
theorem FoundV.erase {L : List Int} (hg : GoodV L) {n : Int} {k : Nat} (h : FoundV L n k) (hk : k < L.length) : dropLV L n = L.eraseIdx k := by
  have hn : numV n = true := hg.isNum (h.there hk)
  have e := splitV L k hk
  rw [h.2.2 hk] at e
  have hnd := hg.once
  rw [e, List.nodup_append] at hnd
  have h2 := (List.nodup_cons.1 hnd.2.1).1
  rw [dropLV, if_pos hn, List.eraseIdx_eq_take_drop_succ]
  conv => lhs; rw [e]
  rw [List.filter_append, List.filter_cons_of_neg (by simp)]
  rw [List.filter_eq_self.2 (fun x hx => by simp; rintro rfl; exact h.2.1 hx), List.filter_eq_self.2 (fun x hx => by simp; rintro rfl; exact h2 hx)]
theorem take_succV (L : List Int) (k : Nat) (n : Int) (h : k < L.length) : n ∈ L.take (k + 1) ↔ n ∈ L.take k ∨ L.getD k 0 = n := by
  rw [List.take_succ_eq_append_getElem h, List.mem_append, List.mem_singleton, List.getD_eq_getElem?_getD, List.getElem?_eq_getElem h, Option.getD_some]
  constructor
  · rintro (x | x)
    · exact Or.inl x
    · exact Or.inr x.symm
  · rintro (x | x)
    · exact Or.inl x
    · exact Or.inr x.symm

/-- Eight places that go round: from one on, so many stand there. -/
structure RingF (A : List Int) (h m : Nat) (f : Nat → Int) : Prop where
  len : A.length = 8
  top : h < 8
  many : m ≤ 8
  at_ : ∀ j, j < m → A.getD ((h + j) % 8) 0 = f j
def Ring (A : List Int) (h : Nat) (L : List Int) : Prop := RingF A h L.length (fun j => L.getD j 0)
theorem getD_setV (A : List Int) (i k : Nat) (x : Int) (hi : i < A.length) : (A.set i x).getD k 0 = if i = k then x else A.getD k 0 := by
  rw [List.getD_eq_getElem?_getD, List.getElem?_set, List.getD_eq_getElem?_getD]
  by_cases e : i = k
  · subst e; simp [hi]
  · simp [e]
theorem getD_snocV (L : List Int) (n : Int) (j : Nat) (h : j ≤ L.length) : (L ++ [n]).getD j 0 = if j = L.length then n else L.getD j 0 := by
  rw [List.getD_eq_getElem?_getD, List.getD_eq_getElem?_getD]
  by_cases e : j = L.length
  · subst e; simp
  · rw [List.getElem?_append_left (by omega), if_neg e]
theorem Ring.push {A : List Int} {h : Nat} {L : List Int} (r : Ring A h L) (hm : L.length < 8) (n : Int) : Ring (A.set ((h + L.length) % 8) n) h (L ++ [n]) := by
  refine ⟨by rw [List.length_set]; exact r.len, r.top, by rw [List.length_append, List.length_singleton]; omega, fun j hj => ?_⟩
  rw [List.length_append, List.length_singleton] at hj
  rw [getD_setV _ _ _ _ (by rw [r.len]; omega), getD_snocV _ _ _ (by omega)]
  by_cases e : j = L.length
  · subst e; simp
  · rw [if_neg (by omega), if_neg e]; exact r.at_ j (by omega)
theorem Ring.pop {A : List Int} {h : Nat} {x : Int} {l : List Int} (r : Ring A h (x :: l)) : Ring A ((h + 1) % 8) l := by
  have hm := r.many
  rw [List.length_cons] at hm
  refine ⟨r.len, by omega, by omega, fun j hj => ?_⟩
  have := r.at_ (j + 1) (by rw [List.length_cons]; omega)
  rw [show (h + (j + 1)) % 8 = ((h + 1) % 8 + j) % 8 by omega] at this
  rw [this]; simp
theorem Ring.first {A : List Int} {h : Nat} {x : Int} {l : List Int} (r : Ring A h (x :: l)) : A.getD h 0 = x := by
  have := r.at_ 0 (by simp)
  rw [Nat.add_zero, Nat.mod_eq_of_lt r.top] at this
  simpa using this
/-- A row of which all from one place up to another one have moved up. -/
def movedV (L : List Int) (p i j : Nat) : Int := if p ≤ j ∧ j < i then L.getD (j + 1) 0 else L.getD j 0
theorem Ring.moved {A : List Int} {h : Nat} {L : List Int} (r : Ring A h L) (p : Nat) : RingF A h L.length (movedV L p p) :=
  ⟨r.len, r.top, r.many, fun j hj => by rw [movedV, if_neg (by omega)]; exact r.at_ j hj⟩
theorem RingF.move {A : List Int} {h m p i : Nat} {L : List Int} (r : RingF A h m (movedV L p i)) (hp : p ≤ i) (hi : i + 1 < m) : RingF (A.set ((h + i) % 8) (A.getD ((h + (i + 1)) % 8) 0)) h m (movedV L p (i + 1)) := by
  have hm := r.many
  refine ⟨by rw [List.length_set]; exact r.len, r.top, r.many, fun j hj => ?_⟩
  rw [getD_setV _ _ _ _ (by rw [r.len]; omega)]
  by_cases e : j = i
  · subst e
    rw [if_pos rfl, r.at_ (j + 1) hi, movedV, movedV, if_neg (by omega), if_pos (by omega)]
  · rw [if_neg (by omega), r.at_ j hj, movedV, movedV]
    by_cases e2 : p ≤ j ∧ j < i
    · rw [if_pos e2, if_pos (by omega)]
    · rw [if_neg e2, if_neg (by omega)]
theorem RingF.erased {A : List Int} {h m p : Nat} {L : List Int} (r : RingF A h m (movedV L p (m - 1))) (hm : m = L.length) (hp : p < m) : Ring A h (L.eraseIdx p) := by
  have hl : (L.eraseIdx p).length = m - 1 := by rw [List.length_eraseIdx_of_lt (by omega)]; omega
  have h8 := r.many
  refine ⟨r.len, r.top, by omega, fun j hj => ?_⟩
  rw [hl] at hj
  rw [r.at_ j (by omega), movedV]
  simp only [List.getD_eq_getElem?_getD, List.getElem?_eraseIdx]
  by_cases e : p ≤ j
  · rw [if_pos ⟨e, hj⟩, if_neg (by omega)]
  · rw [if_neg (by omega), if_pos (by omega)]

/-- Numbers, as cells. -/
def intsV (L : List Int) : List Value := L.map fun n => .int .i64 n
theorem intsV_length (L : List Int) : (intsV L).length = L.length := by simp [intsV]
theorem intsV_snoc (L : List Int) (n : Int) : intsV (L ++ [n]) = intsV L ++ [.int .i64 n] := by simp [intsV]
theorem intsV_get (L : List Int) (i : Nat) (h : i < L.length) : (intsV L)[i]? = some (.int .i64 (L.getD i 0)) := by simp [intsV, h]
theorem intsV_one {L : List Int} : ∀ u ∈ intsV L, u.oneCell' = true := fun u hu => by
  obtain ⟨x, _, rfl⟩ := List.mem_map.1 hu
  rfl
end Go.Proofs.Ytmkoflmhopefhaa
