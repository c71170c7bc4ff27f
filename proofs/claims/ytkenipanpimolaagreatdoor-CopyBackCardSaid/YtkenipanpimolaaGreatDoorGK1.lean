/- Texts of mine, joined: A1. What each says and under which conditions stands at its head, below. -/
import Derived.Test.YtkenipanpimolaaGreatDoorGJ
import Derived.Test.YtkenipanpimolaaGreatDoorGD8
/- Pools as lists: how often frames are held, what is free of a range, whose range a frame is in. Nothing of a program. -/
namespace Go.Proofs.YtkenipanpimolaaGreatDoor
open Go.RowKit
set_option maxRecDepth 100000

theorem rise_ext : ∀ (L K : List Nat), L.Pairwise (· < ·) → K.Pairwise (· < ·) → (∀ n, n ∈ L ↔ n ∈ K) → L = K
  | [], [], _, _, _ => rfl
  | [], k :: s, _, _, h => absurd ((h k).2 (by simp)) (by simp)
  | n :: r, [], _, _, h => absurd ((h n).1 (by simp)) (by simp)
  | n :: r, k :: s, hL, hK, h => by
    obtain ⟨l1, l2⟩ := List.pairwise_cons.1 hL
    obtain ⟨k1, k2⟩ := List.pairwise_cons.1 hK
    have e : n = k := by
      rcases List.mem_cons.1 ((h n).1 (by simp)) with e | e
      · exact e
      · rcases List.mem_cons.1 ((h k).2 (by simp)) with e' | e'
        · exact e'.symm
        · have := k1 n e; have := l1 k e'; omega
    subst e
    rw [rise_ext r s l2 k2 fun m => ?_]
    constructor
    · intro hm
      rcases List.mem_cons.1 ((h m).1 (by simp [hm])) with e | e
      · have := l1 m hm; omega
      · exact e
    · intro hm
      rcases List.mem_cons.1 ((h m).2 (by simp [hm])) with e | e
      · have := k1 m hm; omega
      · exact e

/-- How often each frame is held, with one of them set. -/
def upd (R : Nat → Nat) (x v : Nat) : Nat → Nat := fun y => if y = x then v else R y
theorem upd_same (R : Nat → Nat) (x v : Nat) : upd R x v x = v := by simp [upd]
theorem upd_other (R : Nat → Nat) (x v y : Nat) (h : y ≠ x) : upd R x v y = R y := by simp [upd, h]
/-- What is free of a range. -/
def freeL (p : Nat × Nat) (R : Nat → Nat) : List Nat := (span p.1 p.2).filter fun x => R x == 0
theorem mem_freeL (p : Nat × Nat) (R : Nat → Nat) (x : Nat) : x ∈ freeL p R ↔ (p.1 ≤ x ∧ x < p.1 + p.2) ∧ R x = 0 := by
  simp [freeL, span_mem]
theorem freeL_up (p : Nat × Nat) (R : Nat → Nat) : (freeL p R).Pairwise (· < ·) := (span_up p.1 p.2).filter _
theorem freeL_all (p : Nat × Nat) (R : Nat → Nat) (h : ∀ x, p.1 ≤ x → x < p.1 + p.2 → R x = 0) : freeL p R = span p.1 p.2 :=
  List.filter_eq_self.2 fun x hx => by have := (span_mem _ _ _).1 hx; simp [h x this.1 this.2]
/-- A frame of another range, or one that stays held, changes nothing. -/
theorem freeL_same (p : Nat × Nat) (R Q : Nat → Nat) (h : ∀ x, p.1 ≤ x → x < p.1 + p.2 → (R x = 0 ↔ Q x = 0)) : freeL p R = freeL p Q :=
  rise_ext _ _ (freeL_up p R) (freeL_up p Q) fun x => by
    rw [mem_freeL, mem_freeL]
    constructor
    · rintro ⟨h1, h2⟩; exact ⟨h1, (h x h1.1 h1.2).1 h2⟩
    · rintro ⟨h1, h2⟩; exact ⟨h1, (h x h1.1 h1.2).2 h2⟩
theorem freeL_far (p : Nat × Nat) (R : Nat → Nat) (x v : Nat) (h : ¬ (p.1 ≤ x ∧ x < p.1 + p.2)) : freeL p (upd R x v) = freeL p R :=
  freeL_same _ _ _ fun y h1 h2 => by rw [upd_other _ _ _ _ (fun e => h (by subst e; exact ⟨h1, h2⟩))]
theorem freeL_held (p : Nat × Nat) (R : Nat → Nat) (x v : Nat) (h : R x ≠ 0) (hv : v ≠ 0) : freeL p (upd R x v) = freeL p R :=
  freeL_same _ _ _ fun y _ _ => by
    by_cases e : y = x
    · subst e; rw [upd_same]; simp [h, hv]
    · rw [upd_other _ _ _ _ e]
/-- The least one is taken. -/
theorem freeL_take (p : Nat × Nat) (R : Nat → Nat) (x v : Nat) (r : List Nat) (h : freeL p R = x :: r) (hv : v ≠ 0) : freeL p (upd R x v) = r := by
  have hx : R x = 0 := ((mem_freeL p R x).1 (by rw [h]; simp)).2
  have hup := freeL_up p R
  rw [h] at hup
  obtain ⟨h1, h2⟩ := List.pairwise_cons.1 hup
  refine rise_ext _ _ (freeL_up p _) h2 fun y => ?_
  rw [mem_freeL]
  constructor
  · rintro ⟨hy, h0⟩
    by_cases e : y = x
    · subst e; rw [upd_same] at h0; exact absurd h0 hv
    · rw [upd_other _ _ _ _ e] at h0
      have : y ∈ freeL p R := (mem_freeL p R y).2 ⟨hy, h0⟩
      rw [h] at this
      exact (List.mem_cons.1 this).resolve_left e
  · intro hy
    have hm : y ∈ freeL p R := by rw [h]; simp [hy]
    have := (mem_freeL p R y).1 hm
    have hne : y ≠ x := by have := h1 y hy; omega
    exact ⟨this.1, by rw [upd_other _ _ _ _ hne]; exact this.2⟩
/-- One is given back. -/
theorem freeL_give (p : Nat × Nat) (R : Nat → Nat) (x : Nat) (hx : p.1 ≤ x ∧ x < p.1 + p.2) (h : R x ≠ 0) : x ∉ freeL p R ∧ freeL p (upd R x 0) = ins (freeL p R) x := by
  have hn : x ∉ freeL p R := fun hm => h ((mem_freeL p R x).1 hm).2
  refine ⟨hn, rise_ext _ _ (freeL_up p _) (ins_up _ _ (freeL_up p R) hn) fun y => ?_⟩
  rw [mem_freeL, mem_ins, mem_freeL]
  by_cases e : y = x
  · subst e; rw [upd_same]; simp [hx]
  · rw [upd_other _ _ _ _ e]; simp [e]

/-- Is a frame in a range? -/
def inP (p : Nat × Nat) (x : Int) : Bool := decide ((p.1 : Int) ≤ x) && decide (x < (p.1 : Int) + (p.2 : Int))
theorem inP_iff (p : Nat × Nat) (x : Int) : inP p x = true ↔ (p.1 : Int) ≤ x ∧ x < (p.1 : Int) + (p.2 : Int) := by simp [inP]
/-- Whose range a frame is in, and the error. -/
def ownA (P : List (Nat × Nat)) (x : Int) : Int × Int :=
  match P.findIdx? (fun p => inP p x) with
  | some i => ((i : Int), 0)
  | none => (0, 2)
theorem ownA_ways (P : List (Nat × Nat)) (x : Int) : (∃ i, i < P.length ∧ ownA P x = ((i : Int), 0) ∧ inP (P.getD i (0, 0)) x = true ∧ ∀ j, j < i → inP (P.getD j (0, 0)) x = false) ∨ (ownA P x = (0, 2) ∧ ∀ j, j < P.length → inP (P.getD j (0, 0)) x = false) := by
  unfold ownA
  cases h : P.findIdx? (fun p => inP p x) with
  | none =>
    rw [List.findIdx?_eq_none_iff] at h
    exact Or.inr ⟨rfl, fun j hj => by rw [List.getD_eq_getElem?_getD, List.getElem?_eq_getElem hj]; exact h _ (List.getElem_mem hj)⟩
  | some i =>
    rw [List.findIdx?_eq_some_iff_getElem] at h
    obtain ⟨hi, h1, h2⟩ := h
    refine Or.inl ⟨i, hi, rfl, by rw [List.getD_eq_getElem?_getD, List.getElem?_eq_getElem hi]; exact h1, fun j hj => ?_⟩
    have hjl : j < P.length := by omega
    rw [List.getD_eq_getElem?_getD, List.getElem?_eq_getElem hjl]
    simpa using h2 j hj
theorem ownA_is (P : List (Nat × Nat)) (x : Int) (i : Nat) (hi : i < P.length) (h1 : inP (P.getD i (0, 0)) x = true) (h2 : ∀ j, j < i → inP (P.getD j (0, 0)) x = false) : ownA P x = ((i : Int), 0) := by
  rcases ownA_ways P x with ⟨j, hj, he, h3, h4⟩ | ⟨he, h3⟩
  · have : i = j := by
      rcases Nat.lt_trichotomy i j with h | h | h
      · rw [h4 i h] at h1; cases h1
      · exact h
      · rw [h2 j h] at h3; cases h3
    subst this; exact he
  · rw [h3 i hi] at h1; cases h1
theorem ownA_none (P : List (Nat × Nat)) (x : Int) (h : ∀ j, j < P.length → inP (P.getD j (0, 0)) x = false) : ownA P x = (0, 2) := by
  rcases ownA_ways P x with ⟨j, hj, _, h3, _⟩ | ⟨he, _⟩
  · rw [h j hj] at h3; cases h3
  · exact he

/-- How often any number is held. -/
def refI (R : Nat → Nat) (x : Int) : Int := if 0 ≤ x then (R x.toNat : Int) else 0
theorem refI_nat (R : Nat → Nat) (x : Nat) : refI R (x : Int) = (R x : Int) := by simp [refI]

/-- What a pool is made of, and how often its frames are held: what always holds of it. -/
structure FitP (n : Nat) (P : List (Nat × Nat)) (R : Nat → Nat) : Prop where
  top : n ≤ 1024
  many : P.length ≤ 8
  rng : ∀ i, i < P.length → 1 ≤ (P.getD i (0, 0)).2 ∧ (P.getD i (0, 0)).1 + (P.getD i (0, 0)).2 ≤ n
  apart : ∀ i j x, i < P.length → j < P.length → inP (P.getD i (0, 0)) x = true → inP (P.getD j (0, 0)) x = true → i = j
  outs : ∀ x : Nat, (∀ i, i < P.length → inP (P.getD i (0, 0)) (x : Int) = false) → R x = 0
  most : ∀ x, R x ≤ 64
theorem FitP.upd {n : Nat} {P : List (Nat × Nat)} {R : Nat → Nat} (h : FitP n P R) (i x v : Nat) (hi : i < P.length) (hx : inP (P.getD i (0, 0)) (x : Int) = true) (hv : v ≤ 64) : FitP n P (upd R x v) :=
  ⟨h.top, h.many, h.rng, h.apart, fun y hy => by
    by_cases e : y = x
    · subst e; rw [hy i hi] at hx; cases hx
    · rw [upd_other _ _ _ _ e]; exact h.outs y hy, fun y => by
    by_cases e : y = x
    · subst e; rw [upd_same]; exact hv
    · rw [upd_other _ _ _ _ e]; exact h.most y⟩
theorem FitP.nil (n : Nat) (h : n ≤ 1024) : FitP n [] (fun _ => 0) := ⟨h, by simp, fun i hi => by simp at hi, fun i j x hi => by simp at hi, fun _ _ => rfl, fun _ => by simp⟩
/-- The sets behind a frame's turn: one range's set is another one, all the others stay. -/
theorem FitP.free_far {n : Nat} {P : List (Nat × Nat)} {R : Nat → Nat} (h : FitP n P R) (i x v : Nat) (hi : i < P.length) (hx : inP (P.getD i (0, 0)) (x : Int) = true) : ∀ j, j < P.length → j ≠ i → freeL (P.getD j (0, 0)) (Proofs.YtkenipanpimolaaGreatDoor.upd R x v) = freeL (P.getD j (0, 0)) R := by
  intro j hj hne
  refine freeL_far _ _ _ _ fun e => hne ?_
  exact h.apart j i (x : Int) hj hi ((inP_iff _ _).2 (by omega)) hx

/-! ### The calls, as functions of the ranges and of how often each frame is held -/
def partB (P : List (Nat × Nat)) (k : Int) : Bool := decide (0 ≤ k) && decide (k < P.length)
theorem partB_iff (P : List (Nat × Nat)) (k : Int) : partB P k = true ↔ 0 ≤ k ∧ k < P.length := by simp [partB]
/-- Alloc: frame, error; how often each is held then; which frame is zeroed. -/
def allocA (P : List (Nat × Nat)) (R : Nat → Nat) (k : Int) : Int × Int :=
  if partB P k then (match freeL (P.getD k.toNat (0, 0)) R with
    | [] => (0, 3)
    | x :: _ => ((x : Int), 0)) else (0, 2)
def allocR (P : List (Nat × Nat)) (R : Nat → Nat) (k : Int) : Nat → Nat :=
  if partB P k then (match freeL (P.getD k.toNat (0, 0)) R with
    | [] => R
    | x :: _ => upd R x 1) else R
def allocL (P : List (Nat × Nat)) (R : Nat → Nat) (k : Int) (L : List Int) : List Int :=
  if partB P k then (match freeL (P.getD k.toNat (0, 0)) R with
    | [] => L
    | x :: _ => putRow L x zeros) else L
/-- held: whose, and the error. -/
def heldE (P : List (Nat × Nat)) (R : Nat → Nat) (x : Int) : Int := if (ownA P x).2 = 0 then (if refI R x = 0 then 4 else 0) else 2
def shareE (P : List (Nat × Nat)) (R : Nat → Nat) (x : Int) : Int := if heldE P R x = 0 then (if refI R x = 64 then 3 else 0) else heldE P R x
def shareR (P : List (Nat × Nat)) (R : Nat → Nat) (x : Int) : Nat → Nat := if shareE P R x = 0 then upd R x.toNat (R x.toNat + 1) else R
def freeR (P : List (Nat × Nat)) (R : Nat → Nat) (x : Int) : Nat → Nat := if heldE P R x = 0 then upd R x.toNat (R x.toNat - 1) else R
def leftA (P : List (Nat × Nat)) (R : Nat → Nat) (k : Int) : Nat := if partB P k then (freeL (P.getD k.toNat (0, 0)) R).length else 0
theorem refI_out {n : Nat} {P : List (Nat × Nat)} {R : Nat → Nat} (h : FitP n P R) (x : Int) (hx : ∀ j, j < P.length → inP (P.getD j (0, 0)) x = false) : refI R x = 0 := by
  unfold refI
  split
  · rename_i h0
    rw [h.outs x.toNat (fun i hi => by rw [show ((x.toNat : Nat) : Int) = x by omega]; exact hx i hi)]; rfl
  · rfl
/-- What holds of a frame: it is in no range, it is free, or it is held. -/
theorem frame_ways {n : Nat} {P : List (Nat × Nat)} {R : Nat → Nat} (h : FitP n P R) (x : Int) :
    (ownA P x = (0, 2) ∧ heldE P R x = 2 ∧ refI R x = 0) ∨
    (∃ y i : Nat, x = y ∧ y < n ∧ i < P.length ∧ ownA P x = ((i : Int), 0) ∧ inP (P.getD i (0, 0)) (y : Int) = true ∧ R y = 0 ∧ refI R x = 0 ∧ heldE P R x = 4) ∨
    (∃ y i : Nat, x = y ∧ y < n ∧ i < P.length ∧ ownA P x = ((i : Int), 0) ∧ inP (P.getD i (0, 0)) (y : Int) = true ∧ R y ≠ 0 ∧ R y ≤ 64 ∧ refI R x = (R y : Int) ∧ heldE P R x = 0) := by
  rcases ownA_ways P x with ⟨i, hi, he, h1, h2⟩ | ⟨he, h2⟩
  · obtain ⟨a1, a2⟩ := (inP_iff _ _).1 h1
    obtain ⟨y, rfl⟩ := Int.eq_ofNat_of_zero_le (show 0 ≤ x by omega)
    have hr := (h.rng i hi).2
    by_cases h0 : R y = 0
    · exact Or.inr (Or.inl ⟨y, i, rfl, by omega, hi, he, h1, h0, by rw [refI_nat, h0]; rfl, by simp [heldE, he, refI_nat, h0]⟩)
    · exact Or.inr (Or.inr ⟨y, i, rfl, by omega, hi, he, h1, h0, h.most y, refI_nat R y, by simp [heldE, he, refI_nat, h0]⟩)
  · exact Or.inl ⟨he, by simp [heldE, he], refI_out h x h2⟩
theorem heldE_no {n : Nat} {P : List (Nat × Nat)} {R : Nat → Nat} {x : Int} (_h : FitP n P R) (h : heldE P R x ≠ 0) : shareE P R x = heldE P R x ∧ shareR P R x = R ∧ freeR P R x = R := by
  have : shareE P R x = heldE P R x := by simp [shareE, h]
  exact ⟨this, by simp [shareR, this, h], by simp [freeR, h]⟩
end Go.Proofs.YtkenipanpimolaaGreatDoor
