/- Texts of mine, joined: N40 N41 N42 N43 N44. What each says and under which conditions stands at its head, below. -/
import Derived.Test.YtkcecfghfohjcaaDoorGV
/- Places in lists of mappings, how many tables they take; rows of spaces and what they count. Nothing of a program. -/
namespace Go.Proofs.YtkcecfghfohjcaaDoor
open Go.RowKit
set_option maxRecDepth 100000

/-- Where a page stands in a space's list; is it there? -/
def qOf (pg : Int) : Nat := min pg.toNat 1024
def plF (F : Sp) (pg : Int) : Nat := (segN F 0 (qOf pg)).length
def mapB (F : Sp) (pg : Int) : Bool := decide (0 ≤ pg ∧ pg < 1024) && (F pg.toNat).1
theorem segN_mem (F : Sp) (a : Nat) : ∀ (k : Nat) (y : MapE), y ∈ segN F a k → ∃ j, j < k ∧ y = (((a + j : Nat) : Int), F (a + j)) ∧ (F (a + j)).1 = true
  | 0, y, h => by cases h
  | k + 1, y, h => by
    rw [segN, List.mem_append] at h
    rcases h with h | h
    · obtain ⟨j, h1, h2⟩ := segN_mem F a k y h
      exact ⟨j, by omega, h2⟩
    · split at h
      · rename_i hf
        rw [List.mem_singleton] at h
        exact ⟨k, by omega, h, hf⟩
      · cases h
theorem allF_at (F : Sp) (q : Nat) (hq : q ≤ 1024) : allF F = segN F 0 q ++ segN F q (1024 - q) := by
  unfold allF
  rw [show (1024 : Nat) = q + (1024 - q) by omega, segN_add, Nat.zero_add, show q + (1024 - q) - q = 1024 - q by omega]
theorem getD_app_left {α : Type} (A B : List α) (d : α) (i : Nat) (h : i < A.length) : (A ++ B).getD i d = A.getD i d := by
  simp [List.getD_eq_getElem?_getD, List.getElem?_append_left h]
theorem getD_app_right {α : Type} (A B : List α) (d : α) (i : Nat) : (A ++ B).getD (A.length + i) d = B.getD i d := by
  simp [List.getD_eq_getElem?_getD, List.getElem?_append_right (Nat.le_add_right _ _)]
theorem getD_app0 {α : Type} (A B : List α) (d : α) : (A ++ B).getD A.length d = B.getD 0 d := by simp [List.getD_eq_getElem?_getD, List.getElem?_append_right (Nat.le_refl _)]
theorem getD_in {α : Type} (A : List α) (d : α) (i : Nat) (h : i < A.length) : A.getD i d ∈ A := by
  rw [List.getD_eq_getElem?_getD, List.getElem?_eq_getElem h]; exact List.getElem_mem h
theorem place_uniq {A B : List MapE} {pg : Int} {k : Nat} (hA : ∀ y ∈ A, y.1 < pg) (hB : ∀ y ∈ B, pg ≤ y.1) (hk : k ≤ (A ++ B).length) (h1 : ∀ i, i < k → ((A ++ B).getD i default).1 < pg) (h2 : k < (A ++ B).length → pg ≤ ((A ++ B).getD k default).1) : k = A.length := by
  rw [List.length_append] at hk h2
  by_cases c1 : k < A.length
  · have := h2 (by omega)
    rw [getD_app_left _ _ _ _ c1] at this
    have := hA _ (getD_in A default k c1)
    omega
  · by_cases c2 : A.length < k
    · have := h1 A.length c2
      have e := getD_app0 A B default
      rw [e] at this
      have := hB _ (getD_in B default 0 (by omega))
      omega
    · omega
theorem qOf_in {p : Nat} (h : p < 1024) : qOf (p : Int) = p := by unfold qOf; rw [Int.toNat_natCast]; omega
theorem place_at {F : Sp} {pg : Int} {k : Nat} (hk : k ≤ (allF F).length) (h1 : ∀ i, i < k → ((allF F).getD i default).1 < pg) (h2 : k < (allF F).length → pg ≤ ((allF F).getD k default).1) :
    k = plF F pg ∧ (k < (allF F).length ∧ ((allF F).getD k default).1 = pg ↔ mapB F pg = true) := by
  have hq : qOf pg ≤ 1024 := by unfold qOf; omega
  have e := allF_at F (qOf pg) hq
  have hA : ∀ y ∈ segN F 0 (qOf pg), y.1 < pg := fun y hy => by
    obtain ⟨j, hj, rfl, _⟩ := segN_mem F 0 _ y hy
    simp only [Nat.zero_add]
    unfold qOf at hj
    omega
  have hB : ∀ y ∈ segN F (qOf pg) (1024 - qOf pg), pg ≤ y.1 := fun y hy => by
    obtain ⟨j, hj, rfl, _⟩ := segN_mem F _ _ y hy
    simp only
    unfold qOf at hj ⊢
    omega
  have hu : k = plF F pg := by rw [e] at hk h1 h2; exact place_uniq hA hB hk h1 h2
  refine ⟨hu, ?_⟩
  subst hu
  have e3 : (allF F).getD (plF F pg) default = (segN F (qOf pg) (1024 - qOf pg)).getD 0 default := by
    rw [e]
    have := getD_app0 (segN F 0 (qOf pg)) (segN F (qOf pg) (1024 - qOf pg)) default
    exact this
  rw [e3]
  unfold mapB
  rw [Bool.and_eq_true, decide_eq_true_eq]
  constructor
  · rintro ⟨a, b⟩
    have hlen : 0 < (segN F (qOf pg) (1024 - qOf pg)).length := by
      rw [e, List.length_append] at a; unfold plF at a; omega
    obtain ⟨j, hj, hy, hf⟩ := segN_mem F _ _ _ (getD_in _ default 0 hlen)
    rw [hy] at b
    simp only at b
    have : qOf pg + j = pg.toNat := by omega
    rw [this] at hf
    refine ⟨⟨by omega, by omega⟩, hf⟩
  · rintro ⟨⟨a, b⟩, hf⟩
    obtain ⟨p, rfl⟩ := Int.eq_ofNat_of_zero_le a
    have hp : p < 1024 := by omega
    rw [Int.toNat_natCast] at hf
    have e4 : allF F = segN F 0 p ++ ([((p : Int), F p)] ++ segN F (p + 1) (1023 - p)) := by rw [allF_split F p hp, if_pos hf, List.append_assoc]
    have e5 : plF F (p : Int) = (segN F 0 p).length := by unfold plF; rw [qOf_in hp]
    refine ⟨by rw [e4, e5]; simp, ?_⟩
    rw [← e3, e4, e5]
    have := getD_app0 (segN F 0 p) ([((p : Int), F p)] ++ segN F (p + 1) (1023 - p)) default
    rw [this]; rfl
theorem plF_le (F : Sp) (pg : Int) : plF F pg ≤ (allF F).length := by
  rw [allF_at F (qOf pg) (by unfold qOf; omega), List.length_append]; unfold plF; omega
theorem allF_len (F : Sp) : (allF F).length ≤ 1024 := segN_length _ _ _
theorem plF_take {F : Sp} {p : Nat} (hp : p < 1024) : (allF F).take (plF F (p : Int)) = segN F 0 p := by
  rw [allF_at F p (by omega)]; unfold plF; rw [qOf_in hp, List.take_left]
theorem plF_drop {F : Sp} {p : Nat} (hp : p < 1024) (hf : (F p).1 = false) : (allF F).drop (plF F (p : Int)) = segN F (p + 1) (1023 - p) := by
  rw [allF_split F p hp, hf]; unfold plF; rw [qOf_in hp]; simp
theorem plF_get {F : Sp} {p : Nat} (hp : p < 1024) (hf : (F p).1 = true) : plF F (p : Int) < (allF F).length ∧ (allF F).getD (plF F (p : Int)) default = ((p : Int), F p) := by
  rw [allF_split F p hp, if_pos hf, List.append_assoc]; unfold plF; rw [qOf_in hp]
  refine ⟨by simp, ?_⟩
  have := getD_app0 (segN F 0 p) ([((p : Int), F p)] ++ segN F (p + 1) (1023 - p)) default
  rw [this]; rfl
theorem plF_drop1 {F : Sp} {p : Nat} (hp : p < 1024) (hf : (F p).1 = true) : (allF F).drop (plF F (p : Int) + 1) = segN F (p + 1) (1023 - p) := by
  rw [allF_split F p hp, if_pos hf]; unfold plF; rw [qOf_in hp]
  rw [← List.drop_drop, List.append_assoc, List.drop_left]; rfl
/-- How many tables a list of mappings takes. -/
def cntL (l : List MapE) : Nat → Nat
  | 0 => 0
  | j + 1 => cntL l j + (if j = 0 ∨ ((l.getD (j - 1) default).1.tdiv 32 ≠ (l.getD j default).1.tdiv 32) then 1 else 0)
theorem cntL_le (l : List MapE) : ∀ j, cntL l j ≤ j
  | 0 => Nat.le_refl _
  | j + 1 => by have := cntL_le l j; rw [cntL]; split <;> omega
theorem cntL_app (A B : List MapE) : ∀ j, j ≤ A.length → cntL (A ++ B) j = cntL A j
  | 0, _ => rfl
  | j + 1, h => by
    rw [cntL, cntL, cntL_app A B j (by omega), getD_app_left _ _ _ _ (by omega), getD_app_left _ _ _ _ (by omega)]
def hasK (F : Sp) (k i : Nat) : Bool := (List.range k).any fun j => decide (j / 32 = i) && (F j).1
theorem hasK_iff (F : Sp) (k i : Nat) : hasK F k i = true ↔ ∃ j, j < k ∧ j / 32 = i ∧ (F j).1 = true := by simp [hasK]
theorem hasK_succ_no (F : Sp) (k i : Nat) (h : ¬ (k / 32 = i ∧ (F k).1 = true)) : hasK F (k + 1) i = hasK F k i := by
  rw [Bool.eq_iff_iff, hasK_iff, hasK_iff]
  refine ⟨fun ⟨j, h1, h2⟩ => ⟨j, ?_, h2⟩, fun ⟨j, h1, h2⟩ => ⟨j, by omega, h2⟩⟩
  by_cases e : j = k
  · rw [e] at h2; exact absurd h2 h
  · omega
theorem segN_last (F : Sp) : ∀ k, ((segN F 0 k).length = 0 ∧ ∀ j, j < k → (F j).1 = false) ∨ ((segN F 0 k).length ≠ 0 ∧ ∃ j, j < k ∧ (F j).1 = true ∧ ((segN F 0 k).getD ((segN F 0 k).length - 1) default).1 = (j : Int) ∧ ∀ i, i < k → (F i).1 = true → i ≤ j)
  | 0 => Or.inl ⟨rfl, fun _ h => absurd h (Nat.not_lt_zero _)⟩
  | k + 1 => by
    have ih := segN_last F k
    rw [segN, Nat.zero_add]
    cases hf : (F k).1 with
    | true =>
      refine Or.inr ⟨by simp, k, by omega, hf, ?_, fun i hi _ => by omega⟩
      rw [if_pos rfl, List.length_append, List.length_singleton, Nat.add_sub_cancel]
      have := getD_app0 (segN F 0 k) [((k : Int), F k)] default
      rw [this]; rfl
    | false =>
      rw [if_neg (by decide), List.append_nil]
      rcases ih with ⟨a, b⟩ | ⟨a, j, h1, h2, h3, h4⟩
      · refine Or.inl ⟨a, fun j hj => ?_⟩
        by_cases e : j = k
        · rw [e]; exact hf
        · exact b j (by omega)
      · refine Or.inr ⟨a, j, by omega, h2, h3, fun i hi hx => ?_⟩
        by_cases e : i = k
        · rw [e, hf] at hx; cases hx
        · exact h4 i (by omega) hx
theorem cntL_seg (F : Sp) : ∀ k, k ≤ 1024 → cntL (segN F 0 k) (segN F 0 k).length = ((List.range 32).filter (hasK F k)).length
  | 0, _ => by
    have : hasK F 0 = fun _ => false := by funext i; rfl
    rw [this, show (List.range 32).filter (fun _ => false) = [] from List.filter_eq_nil_iff.2 (fun _ _ h => by cases h)]; rfl
  | k + 1, hk => by
    have ih := cntL_seg F k (by omega)
    rw [segN, Nat.zero_add]
    cases hf : (F k).1 with
    | false =>
      rw [if_neg (by decide), List.append_nil, ih, filt_same (hasK F k) (hasK F (k + 1)) (fun i => hasK_succ_no F k i (by rw [hf]; simp)) 32]
    | true =>
      rw [if_pos rfl, List.length_append, List.length_singleton, cntL, cntL_app _ _ _ (Nat.le_refl _), ih]
      have e := getD_app0 (segN F 0 k) [((k : Int), F k)] default
      rw [e]
      have e2 : (([((k : Int), F k)] : List MapE).getD 0 default).1 = (k : Int) := rfl
      rw [e2]
      have hy : hasK F (k + 1) (k / 32) = true := (hasK_iff _ _ _).2 ⟨k, by omega, rfl, hf⟩
      cases hh : hasK F k (k / 32) with
      | true =>
        rw [filt_same (hasK F k) (hasK F (k + 1)) (fun i => by
          by_cases ei : i = k / 32
          · rw [ei, hy, hh]
          · exact hasK_succ_no F k i (fun hx => ei hx.1.symm)) 32]
        obtain ⟨i, hi, hi2, hif⟩ := (hasK_iff _ _ _).1 hh
        rcases segN_last F k with ⟨a, b⟩ | ⟨a, j, h1, h2, h3, h4⟩
        · have := b i hi; rw [hif] at this; cases this
        · have h5 := h4 i hi hif
          rw [getD_app_left _ _ _ _ (by omega), h3, if_neg, Nat.add_zero]
          rintro (h | h)
          · exact a h
          · apply h
            rw [Int.tdiv_eq_ediv_of_nonneg (by omega), Int.tdiv_eq_ediv_of_nonneg (by omega)]
            omega
      | false =>
        rw [filt_one (hasK F k) (hasK F (k + 1)) (k / 32) (fun i hi => hasK_succ_no F k i (fun hx => hi hx.1.symm)) hh hy 32, if_pos (show k / 32 < 32 by omega), if_pos]
        rcases segN_last F k with ⟨a, b⟩ | ⟨a, j, h1, h2, h3, h4⟩
        · exact Or.inl a
        · refine Or.inr ?_
          rw [getD_app_left _ _ _ _ (by omega), h3, Int.tdiv_eq_ediv_of_nonneg (by omega), Int.tdiv_eq_ediv_of_nonneg (by omega)]
          intro hx
          have : hasK F k (k / 32) = true := (hasK_iff _ _ _).2 ⟨j, h1, by omega, h2⟩
          rw [hh] at this; cases this
theorem cntL_all (F : Sp) : 1 + cntL (allF F) (allF F).length = tabF F := by
  unfold allF tabF
  rw [cntL_seg F 1024 (by omega)]
  have : ∀ i, i < 32 → hasK F 1024 i = hasB F i := fun i hi => by
    rw [Bool.eq_iff_iff, hasK_iff, hasB_iff]
    refine ⟨fun ⟨j, h1, h2, h3⟩ => ⟨j % 32, by omega, by rw [show 32 * i + j % 32 = j by omega]; exact h3⟩, fun ⟨j, h1, h2⟩ => ⟨32 * i + j, by omega, by omega, h2⟩⟩
  rw [List.filter_congr (fun i hi => this i (List.mem_range.1 hi))]
theorem tabF_le (F : Sp) : 1 ≤ tabF F ∧ tabF F ≤ 33 := by
  unfold tabF
  have := List.length_filter_le (hasB F) (List.range 32)
  rw [List.length_range] at this
  omega
/-- A row of spaces: the root, the space, the value of its list. -/
abbrev Rec := Nat × Sp × Value
def usedK : List Rec → Nat
  | [] => 0
  | y :: r => tabF y.2.1 + usedK r
theorem usedK_app : ∀ A B : List Rec, usedK (A ++ B) = usedK A + usedK B
  | [], B => by simp [usedK]
  | y :: r, B => by rw [List.cons_append, usedK, usedK, usedK_app r B]; omega
theorem usedK_len : ∀ K : List Rec, K.length ≤ usedK K
  | [] => Nat.le_refl _
  | y :: r => by have := usedK_len r; have := (tabF_le y.2.1).1; rw [usedK, List.length_cons]; omega
theorem split_at {K : List Rec} {j : Nat} {y : Rec} (hj : j < K.length) (hy : K.getD j default = y) : K = K.take j ++ [y] ++ K.drop (j + 1) := by
  have e : K[j] = y := by rw [← hy, List.getD_eq_getElem?_getD, List.getElem?_eq_getElem hj]; rfl
  rw [List.append_assoc, List.singleton_append, ← e, List.getElem_cons_drop hj, List.take_append_drop]
theorem usedK_split {K : List Rec} {j : Nat} {y : Rec} (hj : j < K.length) (hy : K.getD j default = y) : usedK K = usedK (K.take j) + tabF y.2.1 + usedK (K.drop (j + 1)) := by
  conv => lhs; rw [split_at hj hy]
  rw [usedK_app, usedK_app]; simp [usedK]
theorem set_split {K : List Rec} {j : Nat} (z : Rec) (hj : j < K.length) : K.set j z = K.take j ++ [z] ++ K.drop (j + 1) := by
  rw [List.set_eq_take_append_cons_drop, if_pos hj]; simp
theorem usedK_set {K : List Rec} {j : Nat} {y : Rec} (z : Rec) (hj : j < K.length) (hy : K.getD j default = y) : usedK (K.set j z) + tabF y.2.1 = usedK K + tabF z.2.1 := by
  rw [usedK_split hj hy, set_split z hj, usedK_app, usedK_app]
  simp [usedK]; omega
theorem usedK_take_succ {K : List Rec} {j : Nat} {y : Rec} (hj : j < K.length) (hy : K.getD j default = y) : usedK (K.take (j + 1)) = usedK (K.take j) + tabF y.2.1 := by
  have e : K[j] = y := by rw [← hy, List.getD_eq_getElem?_getD, List.getElem?_eq_getElem hj]; rfl
  rw [List.take_succ_eq_append_getElem hj, usedK_app, e]; simp [usedK]
/-- The spaces are just those of the row, and no root stands in it twice. -/
structure Match (W : Nat → Option Sp) (K : List Rec) : Prop where
  nod : ∀ i j, i < K.length → j < K.length → (K.getD i default).1 = (K.getD j default).1 → i = j
  has : ∀ j, j < K.length → W (K.getD j default).1 = some (K.getD j default).2.1
  all : ∀ r F, W r = some F → ∃ j, j < K.length ∧ (K.getD j default).1 = r
theorem Match.none_ : Match (fun _ => none) [] := ⟨fun i _ h => absurd h (Nat.not_lt_zero _), fun i h => absurd h (Nat.not_lt_zero _), fun _ _ h => by cases h⟩
theorem Match.put {W : Nat → Option Sp} {K : List Rec} (h : Match W K) {j r : Nat} {F F' : Sp} {u u' : Value} (hj : j < K.length) (hy : K.getD j default = (r, F, u)) : Match (updW W r (some F')) (K.set j (r, F', u')) := by
  have g : ∀ i, (K.set j (r, F', u')).getD i default = if i = j then (r, F', u') else K.getD i default := fun i => by
    rw [List.getD_eq_getElem?_getD, List.getElem?_set]
    by_cases e : i = j
    · subst e; simp [hj]
    · rw [if_neg (Ne.symm e), if_neg e, List.getD_eq_getElem?_getD]
  have gr : ∀ i, ((K.set j (r, F', u')).getD i default).1 = (K.getD i default).1 := fun i => by
    rw [g]; split
    · rename_i e; rw [e, hy]
    · rfl
  refine ⟨fun a b ha hb hx => ?_, fun a ha => ?_, fun r' F2 hr => ?_⟩
  · rw [List.length_set] at ha hb
    rw [gr, gr] at hx
    exact h.nod a b ha hb hx
  · rw [List.length_set] at ha
    rw [g]
    by_cases e : a = j
    · rw [if_pos e, updW_same]
    · rw [if_neg e, updW_other, h.has a ha]
      intro hx
      exact e (h.nod a j ha hj (by rw [hx, hy]))
  · rw [List.length_set]
    by_cases e : r' = r
    · exact ⟨j, hj, by rw [gr, hy, e]⟩
    · rw [updW_other _ _ _ _ e] at hr
      obtain ⟨a, ha, hx⟩ := h.all r' F2 hr
      exact ⟨a, ha, by rw [gr]; exact hx⟩
theorem Match.open_ {W : Nat → Option Sp} {K : List Rec} (h : Match W K) {r : Nat} {F : Sp} {u : Value} (hn : W r = none) : Match (updW W r (some F)) (K ++ [(r, F, u)]) := by
  have g1 : ∀ i, i < K.length → (K ++ [(r, F, u)]).getD i default = K.getD i default := fun i hi => getD_app_left _ _ _ _ hi
  have g2 : (K ++ [(r, F, u)]).getD K.length default = (r, F, u) := getD_app0 K [(r, F, u)] default
  have nr : ∀ i, i < K.length → (K.getD i default).1 ≠ r := fun i hi e => by have := h.has i hi; rw [e, hn] at this; cases this
  refine ⟨fun a b ha hb hx => ?_, fun a ha => ?_, fun r' F2 hr => ?_⟩
  · rw [List.length_append, List.length_singleton] at ha hb
    by_cases ea : a < K.length
    · by_cases eb : b < K.length
      · rw [g1 a ea, g1 b eb] at hx; exact h.nod a b ea eb hx
      · obtain rfl : b = K.length := by omega
        rw [g1 a ea, g2] at hx; exact absurd hx (nr a ea)
    · obtain rfl : a = K.length := by omega
      by_cases eb : b < K.length
      · rw [g1 b eb, g2] at hx; exact absurd hx.symm (nr b eb)
      · omega
  · rw [List.length_append, List.length_singleton] at ha
    by_cases ea : a < K.length
    · rw [g1 a ea, updW_other _ _ _ _ (nr a ea), h.has a ea]
    · obtain rfl : a = K.length := by omega
      rw [g2, updW_same]
  · rw [List.length_append, List.length_singleton]
    by_cases e : r' = r
    · exact ⟨K.length, by omega, by rw [g2, e]⟩
    · rw [updW_other _ _ _ _ e] at hr
      obtain ⟨a, ha, hx⟩ := h.all r' F2 hr
      exact ⟨a, by omega, by rw [g1 a ha]; exact hx⟩
theorem getD_del {K : List Rec} {j : Nat} (hj : j < K.length) (i : Nat) : (K.take j ++ K.drop (j + 1)).getD i default = K.getD (if i < j then i else i + 1) default := by
  have hl : (K.take j).length = j := by rw [List.length_take]; omega
  by_cases hi : i < j
  · rw [if_pos hi, getD_app_left _ _ _ _ (by omega)]; simp [List.getD_eq_getElem?_getD, hi]
  · rw [if_neg hi]
    have e := getD_app_right (K.take j) (K.drop (j + 1)) default (i - j)
    rw [hl, show j + (i - j) = i by omega] at e
    rw [e]; simp [List.getD_eq_getElem?_getD, List.getElem?_drop, show j + 1 + (i - j) = i + 1 by omega]
theorem Match.close {W : Nat → Option Sp} {K : List Rec} (h : Match W K) {j : Nat} (hj : j < K.length) : Match (updW W (K.getD j default).1 none) (K.take j ++ K.drop (j + 1)) := by
  have hl : (K.take j ++ K.drop (j + 1)).length = K.length - 1 := by rw [List.length_append, List.length_take, List.length_drop]; omega
  refine ⟨fun a b ha hb hx => ?_, fun a ha => ?_, fun r' F2 hr => ?_⟩
  · rw [hl] at ha hb
    rw [getD_del hj, getD_del hj] at hx
    have := h.nod _ _ (by split <;> omega) (by split <;> omega) hx
    split at this <;> split at this <;> omega
  · rw [hl] at ha
    rw [getD_del hj, updW_other, h.has _ (by split <;> omega)]
    intro hx
    have := h.nod _ _ (by split <;> omega) hj hx
    split at this <;> omega
  · rw [hl]
    by_cases e : r' = (K.getD j default).1
    · rw [e, updW_same] at hr; cases hr
    · rw [updW_other _ _ _ _ e] at hr
      obtain ⟨a, ha, hx⟩ := h.all r' F2 hr
      have haj : a ≠ j := fun e2 => e (by rw [← hx, e2])
      refine ⟨if a < j then a else a - 1, by split <;> omega, ?_⟩
      rw [getD_del hj, ← hx]
      congr 2
      by_cases e5 : a < j
      · rw [if_pos e5, if_pos e5]
      · rw [if_neg e5, if_neg (by omega)]; omega
theorem Match.find {W : Nat → Option Sp} {K : List Rec} (h : Match W K) (r : Int) :
    (spOf W r = none ∧ ∀ i, i < K.length → ((K.getD i default).1 : Int) ≠ r) ∨
    (∃ (j k : Nat) (F : Sp) (u : Value), r = (k : Int) ∧ j < K.length ∧ K.getD j default = (k, F, u) ∧ spOf W r = some F ∧ W k = some F ∧ ∀ i, i < j → ((K.getD i default).1 : Int) ≠ r) := by
  cases hs : spOf W r with
  | none =>
    refine Or.inl ⟨rfl, fun i hi e => ?_⟩
    have := h.has i hi
    rw [← e, spOf_nat, this] at hs; cases hs
  | some F =>
    obtain ⟨k, rfl, hw⟩ := spOf_some hs
    obtain ⟨j, hj, he⟩ := h.all k F hw
    have h2 := h.has j hj
    rw [he, hw] at h2
    obtain ⟨⟨a, b, u⟩, hy⟩ : ∃ y, K.getD j default = y := ⟨_, rfl⟩
    rw [hy] at he h2
    simp only at he h2
    subst he
    cases h2
    refine Or.inr ⟨j, a, F, u, rfl, hj, hy, rfl, hw, fun i hi e => ?_⟩
    have := h.nod i j (by omega) hj (by rw [hy]; simp only; omega)
    omega
end Go.Proofs.YtkcecfghfohjcaaDoor

/- The contracts of the document's place, Tables, Used, At, fits, asked, Query. No condition. -/
namespace Go.Proofs.YtkcecfghfohjcaaDoor
open Go.RowKit Go.Maps
set_option maxRecDepth 100000

theorem MapsAt.at_ {w : World} {a : Option Addr} {n c : Nat} {l : List MapE} (h : MapsAt w (.slice a n c) l) (hn : n = l.length) {j : Nat} (hj : j < n) : ∃ b, a = some ⟨b, 0, none⟩ ∧ b < w.heap.size ∧ w.cell? ⟨b, j * 5, none⟩ = some (.int .i64 (l.getD j default).1) := by
  obtain ⟨a', c', he, h⟩ := h
  injection he with e1
  subst e1
  rcases h with rfl | ⟨b, rfl, hb, hc⟩
  · simp at hn; omega
  · exact ⟨b, rfl, hb, (hc j (by omega)).1⟩
def PlRel (w : World) (l : List MapE) (n : Nat) (pg : Int) (i : Value) (wr : World) : Prop := ∃ j : Nat, i = .int .i64 (j : Int) ∧ j ≤ n ∧ (∀ i, i < j → (l.getD i default).1 < pg) ∧ Below w.heap.size w wr
set_option maxHeartbeats 2000000 in
theorem rplace_ok (F : Sp) (u : Value) (pg : Int) (w : World) (hu : MapsAt w u (allF F)) : Calls Tryd.prog 43 #[u, .int .i64 pg] w fun e w' => e = .returned (.tuple #[.int .i64 (plF F pg : Int), .bool (mapB F pg)]) ∧ Below w.heap.size w w' := by
  have hpa : ∀ k, k ≤ (allF F).length → (∀ i, i < k → ((allF F).getD i default).1 < pg) → (k < (allF F).length → pg ≤ ((allF F).getD k default).1) → k = plF F pg ∧ (k < (allF F).length ∧ ((allF F).getD k default).1 = pg ↔ mapB F pg = true) := fun k a b c => place_at a b c
  have hle : (allF F).length ≤ 1024 := allF_len F
  generalize mapB F pg = B at hpa ⊢
  generalize plF F pg = P at hpa ⊢
  generalize allF F = l at hu hpa hle
  obtain ⟨n, hn⟩ : ∃ n, n = l.length := ⟨_, rfl⟩
  obtain ⟨a, c, rfl, hr⟩ := id hu
  rw [← hn] at hu hpa hle ⊢
  have HN := Lib.hid hn
  have HU := Lib.hid hu
  have PA := Lib.hid hpa
  clear hn hu hpa hr
  go_enter Tryd.func43, Tryd.ntmps43
  go_wp2_with fail
  go_loopw [6] (fun i wr => PlRel w l n pg i wr) (fun i _ => (n - (intOf i).toNat))
  case atStart => exact ⟨0, rfl, Nat.zero_le _, fun i hi => absurd hi (Nat.not_lt_zero _), Below.refl _ _⟩
  case round =>
    obtain ⟨j, rfl, hj, hlow, hB⟩ := hrel
    have BB := Lib.hid hB
    have LOW := Lib.hid hlow
    clear hB hlow
    by_cases hlt : j < n
    · obtain ⟨b, rfl, hbl, hc⟩ := HU.out.at_ HN.out hlt
      have CB : Hid (∀ w', Below w.heap.size w w' → w'.cell? ⟨b, j * 5, none⟩ = some (.int .i64 (l.getD j default).1)) := Lib.hid fun w' hb => (hb.cell (p := ⟨b, _, none⟩) hbl).trans hc
      have q0 := CB.out wr BB.out
      obtain ⟨x, hx⟩ : ∃ x, x = (l.getD j default).1 := ⟨_, rfl⟩
      rw [← hx] at q0 CB
      have HX := Lib.hid hx
      clear hc hx
      by_cases hxp : x < pg
      · have d0 : decide (x < pg) = true := decide_eq_true hxp
        have LOW2 : Hid (∀ i, i < j + 1 → (l.getD i default).1 < pg) := Lib.hid fun i hi => by
          by_cases e : i = j
          · rw [e, ← HX.out]; exact hxp
          · exact LOW.out i (by omega)
        go_wp2_with fail
        go_roundw
        case rel => exact ⟨j + 1, by go_num, by omega, LOW2.out, BB.out⟩
        case measure => simp [intOf]; omega
      · have d0 : decide (x < pg) = false := decide_eq_false hxp
        obtain ⟨rfl, hiff⟩ := PA.out j hj LOW.out (fun _ => by rw [← HX.out]; omega)
        rw [← HX.out] at hiff
        by_cases hxe : x = pg
        · subst hxe
          obtain rfl : B = true := hiff.1 ⟨hlt, rfl⟩
          clear hiff PA LOW
          go_wp2_with fail
          go_region_held3 (fun w' => w'.cell? ⟨b, j * 5, none⟩ = some (.int .i64 x)) (first | exact CB.out _ BB.out.drew | go_keep)
            (fail)
          all_goals
            go_wp2_with fail
            go_ret2
            exact ⟨rfl, BB.out.drew⟩
        · obtain rfl : B = false := by
            cases B with
            | false => rfl
            | true => exact absurd (hiff.2 rfl).2 hxe
          have e0 : (x == pg) = false := by simpa using hxe
          clear hiff PA LOW
          go_wp2_with fail
          go_region_held3 (fun w' => w'.cell? ⟨b, j * 5, none⟩ = some (.int .i64 x)) (first | exact CB.out _ BB.out.drew | go_keep)
            (fail)
          all_goals
            go_wp2_with fail
            go_ret2
            exact ⟨rfl, BB.out.drew⟩
    · obtain rfl : j = n := by omega
      obtain ⟨rfl, hiff⟩ := PA.out j hj LOW.out (fun h => absurd h (by omega))
      obtain rfl : B = false := by
        cases B with
        | false => rfl
        | true => have := (hiff.2 rfl).1; omega
      clear hiff PA LOW
      go_wp2_with fail
      go_quiet (fail)
      go_wp2_with fail
      go_ret2
      exact ⟨rfl, below_drewN BB.out _⟩
def TbRel (w : World) (l : List MapE) (n : Nat) (t i : Value) (wr : World) : Prop := ∃ j : Nat, i = .int .i64 (j : Int) ∧ t = .int .i64 ((1 + cntL l j : Nat) : Int) ∧ j ≤ n ∧ Below w.heap.size w wr
set_option maxHeartbeats 2000000 in
theorem rtables_any (l : List MapE) (u : Value) (w : World) (hle : l.length ≤ 1025) (hpg : ∀ y ∈ l, 0 ≤ y.1 ∧ y.1 < 1024) (hu : MapsAt w u l) : Calls Tryd.prog 20 #[u] w fun e w' => e = .returned (.int .i64 ((1 + cntL l l.length : Nat) : Int)) ∧ Below w.heap.size w w' := by
  obtain ⟨n, hn⟩ : ∃ n, n = l.length := ⟨_, rfl⟩
  obtain ⟨a, c, rfl, hr⟩ := id hu
  rw [← hn] at hu hle ⊢
  have HN := Lib.hid hn
  have HU := Lib.hid hu
  have HPG : Hid (∀ i, i < n → 0 ≤ (l.getD i default).1 ∧ (l.getD i default).1 < 1024) := Lib.hid fun i hi => hpg _ (getD_in l default i (by omega))
  clear hn hu hr hpg
  go_enter Tryd.func20, Tryd.ntmps20
  go_wp2_with fail
  go_loopw [3, 4] (fun t i wr => TbRel w l n t i wr) (fun _ i _ => (n - (intOf i).toNat))
  case atStart => exact ⟨0, rfl, rfl, Nat.zero_le _, Below.refl _ _⟩
  case round =>
    obtain ⟨j, rfl, rfl, hj, hB⟩ := hrel
    have BB := Lib.hid hB
    clear hB
    have hcl := cntL_le l j
    by_cases hlt : j < n
    · obtain ⟨b, rfl, hbl, hc⟩ := HU.out.at_ HN.out hlt
      by_cases h0 : j = 0
      · subst h0
        have e1 : Hid (cntL l 1 = cntL l 0 + 1) := Lib.hid (by simp [cntL])
        generalize cntL l 0 = C at *
        go_wp2_with fail
        go_quiet (fail)
        go_wp2_with fail
        go_roundw
        case rel => exact ⟨1, by go_num, by rw [e1.out]; go_num, by omega, below_drewN BB.out _⟩
        case measure => simp [intOf]; omega
      · obtain ⟨k, hk⟩ : ∃ k, j = k + 1 := ⟨j - 1, by omega⟩
        have hkn : k < n := by omega
        obtain ⟨b', hb', -, hc'⟩ := HU.out.at_ HN.out hkn
        cases hb'
        have CB : Hid (∀ w', Below w.heap.size w w' → w'.cell? ⟨b, j * 5, none⟩ = some (.int .i64 (l.getD j default).1) ∧ w'.cell? ⟨b, k * 5, none⟩ = some (.int .i64 (l.getD k default).1)) := Lib.hid fun w' hb => ⟨(hb.cell (p := ⟨b, _, none⟩) hbl).trans hc, (hb.cell (p := ⟨b, _, none⟩) hbl).trans hc'⟩
        have e1 : Hid (cntL l (j + 1) = cntL l j + (if (l.getD k default).1.tdiv 32 ≠ (l.getD j default).1.tdiv 32 then 1 else 0)) := Lib.hid (by rw [cntL]; simp [h0, show j - 1 = k by omega])
        obtain ⟨x0, x1⟩ := HPG.out k hkn
        obtain ⟨y0, y1⟩ := HPG.out j hlt
        obtain ⟨x, hx⟩ : ∃ x, x = (l.getD k default).1 := ⟨_, rfl⟩
        obtain ⟨y, hy⟩ : ∃ y, y = (l.getD j default).1 := ⟨_, rfl⟩
        rw [← hx] at x0 x1
        rw [← hy] at y0 y1
        have d3 : IntKind.i64.wrap (x.tdiv 32) = x.tdiv 32 := IntWalk.i64_in _ (by rw [Int.tdiv_eq_ediv_of_nonneg x0]; omega)
        have d4 : IntKind.i64.wrap (y.tdiv 32) = y.tdiv 32 := IntWalk.i64_in _ (by rw [Int.tdiv_eq_ediv_of_nonneg y0]; omega)
        rw [← hx, ← hy] at CB e1
        obtain ⟨q0, q1⟩ := CB.out wr BB.out
        have f0 : ((j : Int) == 0) = false := by simpa using h0
        have d2 : IntKind.i64.wrap ((j : Int) - 1) = (k : Int) := (IntWalk.i64_in _ (by omega)).trans (by omega)
        have hk0 : (0 : Int) ≤ (k : Int) := by omega
        have hkn2 : (k : Int) < (n : Int) := by omega
        clear hc hc' hx hy hk
        generalize cntL l j = C at *
        by_cases hd : x.tdiv 32 = y.tdiv 32
        · have hne : (x.tdiv 32 != y.tdiv 32) = false := by simp [hd]
          have e2 : Hid (cntL l (j + 1) = C) := Lib.hid (by rw [e1.out, if_neg (fun h => h hd)]; rfl)
          clear e1
          go_wp2_with fail
          go_region_held3 (fun w' => w'.cell? ⟨b, j * 5, none⟩ = some (.int .i64 y) ∧ w'.cell? ⟨b, k * 5, none⟩ = some (.int .i64 x)) (first | exact CB.out _ BB.out.drew | go_keep)
            (fail)
          all_goals
            go_wp2_with fail
            go_roundw
            case rel => exact ⟨j + 1, by go_num, by rw [e2.out], by omega, BB.out.drew⟩
            case measure => simp [intOf]; omega
        · have hne : (x.tdiv 32 != y.tdiv 32) = true := by simpa using hd
          have e2 : Hid (cntL l (j + 1) = C + 1) := Lib.hid (by rw [e1.out, if_pos hd])
          clear e1
          go_wp2_with fail
          go_region_held3 (fun w' => w'.cell? ⟨b, j * 5, none⟩ = some (.int .i64 y) ∧ w'.cell? ⟨b, k * 5, none⟩ = some (.int .i64 x)) (first | exact CB.out _ BB.out.drew | go_keep)
            (fail)
          all_goals
            go_wp2_with fail
            go_roundw
            case rel => exact ⟨j + 1, by go_num, by rw [e2.out]; go_num, by omega, BB.out.drew⟩
            case measure => simp [intOf]; omega
    · obtain rfl : j = n := by omega
      go_wp2_with fail
      go_ret
      exact ⟨rfl, BB.out⟩
theorem rtables_ok (F : Sp) (u : Value) (w : World) (hu : MapsAt w u (allF F)) : Calls Tryd.prog 20 #[u] w fun e w' => e = .returned (.int .i64 (tabF F : Int)) ∧ Below w.heap.size w w' := by
  rw [← cntL_all F]
  exact rtables_any _ u w (by have := allF_len F; omega) (fun y hy => by obtain ⟨j, hj, rfl, _⟩ := segN_mem F 0 1024 y hy; exact ⟨by simp only; omega, by simp only; omega⟩) hu
end Go.Proofs.YtkcecfghfohjcaaDoor

/- The contracts of the document's Used, At, fits, asked. No condition. -/
namespace Go.Proofs.YtkcecfghfohjcaaDoor
open Go.RowKit Go.Maps
set_option maxRecDepth 100000

/-- Spaces in memory: a slice of records. -/
def SpV (w : World) (v : Value) (K : List Rec) : Prop := ∃ a c, v = .slice a K.length c ∧ (K = [] ∨ ∃ b, a = some ⟨b, 0, none⟩ ∧ b < w.heap.size ∧ ∀ i, i < K.length →
  w.cell? ⟨b, i * 2, none⟩ = some (.int .i64 ((K.getD i default).1 : Int)) ∧ w.cell? ⟨b, i * 2 + 1, none⟩ = some (K.getD i default).2.2 ∧ MapsAt w (K.getD i default).2.2 (allF (K.getD i default).2.1))
theorem SpV.below {w w' : World} {v : Value} {K : List Rec} (h : SpV w v K) (hb : Below w.heap.size w w') : SpV w' v K := by
  obtain ⟨a, c, rfl, h⟩ := h
  refine ⟨a, c, rfl, h.imp id fun ⟨b, e, hlt, hc⟩ => ⟨b, e, Nat.lt_of_lt_of_le hlt hb.size, fun i hi => ?_⟩⟩
  obtain ⟨c0, c1, c2⟩ := hc i hi
  have k : ∀ q, w'.cell? ⟨b, q, none⟩ = w.cell? ⟨b, q, none⟩ := fun q => hb.cell (p := ⟨b, q, none⟩) hlt
  exact ⟨(k _).trans c0, (k _).trans c1, c2.below hb⟩
theorem SpV.at_ {w : World} {a : Option Addr} {n c : Nat} {K : List Rec} (h : SpV w (.slice a n c) K) (hn : n = K.length) {j : Nat} (hj : j < n) {r : Nat} {F : Sp} {u : Value} (hy : K.getD j default = (r, F, u)) :
    ∃ b, a = some ⟨b, 0, none⟩ ∧ b < w.heap.size ∧ w.cell? ⟨b, j * 2, none⟩ = some (.int .i64 (r : Int)) ∧ w.cell? ⟨b, j * 2 + 1, none⟩ = some u ∧ MapsAt w u (allF F) := by
  obtain ⟨a', c', he, h⟩ := h
  injection he with e1
  subst e1
  rcases h with rfl | ⟨b, rfl, hb, hc⟩
  · simp at hn; omega
  · have := hc j (by omega)
    rw [hy] at this
    exact ⟨b, rfl, hb, this⟩
theorem cells3 {w : World} {b : Nat} {x y z : Value} {t : TypeId} (h : w.heap[b]? = some (.cells #[x, y, z] t (0, 0))) : w.cell? ⟨b, 0, none⟩ = some x ∧ w.cell? ⟨b, 1, none⟩ = some y ∧ w.cell? ⟨b, 2, none⟩ = some z := by
  refine ⟨?_, ?_, ?_⟩ <;> (rw [cell_of_row _ _ _ _ _ _ h]; rfl)
theorem usedK_le : ∀ K : List Rec, usedK K ≤ 33 * K.length
  | [] => Nat.le_refl _
  | y :: r => by have := usedK_le r; have := (tabF_le y.2.1).2; rw [usedK, List.length_cons]; omega
abbrev wvC (a : Option Addr) (q c n m : Nat) : Array Value := #[.slice a q c, .int .i64 (n : Int), .int .i64 (m : Int)]
def UsRel (w : World) (K : List Rec) (q : Nat) (t i : Value) (wr : World) : Prop := ∃ j : Nat, i = .int .i64 (j : Int) ∧ t = .int .i64 ((usedK (K.take j) : Nat) : Int) ∧ j ≤ q ∧ Below w.heap.size w wr
set_option maxHeartbeats 2000000 in
theorem rused_ok (K : List Rec) (a : Option Addr) (q c n m : Nat) (w : World) (hq : q = K.length) (hl : q ≤ 100) (hv : SpV w (.slice a q c) K) : Calls Tryd.prog 13 #[.agg (wvC a q c n m)] w fun e w' => e = .returned (.int .i64 ((usedK K : Nat) : Int)) ∧ Below w.heap.size w w' := by
  have HQ := Lib.hid hq
  obtain ⟨w0, hw0⟩ : ∃ w0, w0 = w.alloc (.cells (wvC a q c n m) 31) := ⟨_, rfl⟩
  have B0 : Hid (Below w.heap.size w w0) := Lib.hid (by rw [hw0]; exact (Below.refl _ _).alloc (Nat.le_refl _) _)
  have R0 : Hid (w0.heap[w.heap.size]? = some (.cells (wvC a q c n m) 31 (0, 0))) := Lib.hid (by rw [hw0]; exact heap_alloc_new w _)
  have HV := Lib.hid (hv.below B0.out)
  clear hv hq
  go_enter Tryd.func13, Tryd.ntmps13
  go_wp2_with fail
  rw [← hw0]
  clear hw0
  go_loopw [3, 4] (fun t i wr => UsRel w0 K q t i wr) (fun _ i _ => (q - (intOf i).toNat))
  case atStart => exact ⟨0, rfl, rfl, Nat.zero_le _, Below.refl _ _⟩
  case round =>
    obtain ⟨j, rfl, rfl, hj, hB⟩ := hrel
    have BB := Lib.hid hB
    clear hB
    obtain ⟨x0, -, -⟩ := cells3 (below_block BB.out R0.out)
    by_cases hlt : j < q
    · obtain ⟨⟨r, F, u⟩, hy⟩ : ∃ y, K.getD j default = y := ⟨_, rfl⟩
      obtain ⟨b, rfl, hbl, -, hu, hm⟩ := HV.out.at_ HQ.out hlt hy
      have y1 : wr.cell? ⟨b, j * 2 + 1, none⟩ = some u := (BB.out.cell (p := ⟨b, _, none⟩) hbl).trans hu
      have hm2 := Lib.hid (hm.below BB.out)
      have ht := usedK_take_succ (by have := HQ.out; omega) hy
      have hb1 := usedK_le (K.take j)
      have hb2 := (tabF_le F).2
      have hb3 : (K.take j).length ≤ 100 := by rw [List.length_take]; omega
      simp only at ht
      have HT := Lib.hid ht
      clear hu hm hy ht
      generalize usedK (K.take j) = C at *
      go_wp2_with (go_at_call 20; refine (rtables_ok F u wr hm2.out).mono ?_; rintro e w3 ⟨rfl, hb⟩; have B3 := Lib.hid (BB.out.trans (hb.mono BB.out.size)); clear hb)
      go_roundw
      case rel => exact ⟨j + 1, by go_num, by rw [HT.out]; go_num, by omega, B3.out⟩
      case measure => simp [intOf]; omega
    · obtain rfl : j = q := by omega
      have e : K.take j = K := List.take_of_length_le (by have := HQ.out; omega)
      rw [e]
      go_wp2_with fail
      go_ret
      exact ⟨rfl, B0.out.trans (BB.out.mono B0.out.size)⟩
def AtRel (w : World) (K : List Rec) (q : Nat) (r : Int) (i : Value) (wr : World) : Prop := ∃ j : Nat, i = .int .i64 (j : Int) ∧ j ≤ q ∧ (∀ i, i < j → ((K.getD i default).1 : Int) ≠ r) ∧ Below w.heap.size w wr
/-- Where a space stands. -/
def AtIs (K : List Rec) (r J : Int) : Prop := (J = -1 ∧ ∀ i, i < K.length → ((K.getD i default).1 : Int) ≠ r) ∨ ∃ j : Nat, J = (j : Int) ∧ j < K.length ∧ ((K.getD j default).1 : Int) = r ∧ ∀ i, i < j → ((K.getD i default).1 : Int) ≠ r
set_option maxHeartbeats 2000000 in
theorem rat_ok (K : List Rec) (a : Option Addr) (q c n m : Nat) (r J : Int) (w : World) (hq : q = K.length) (hl : q ≤ 100) (hv : SpV w (.slice a q c) K) (hJ : AtIs K r J) : Calls Tryd.prog 31 #[.agg (wvC a q c n m), .int .i64 r] w fun e w' => e = .returned (.int .i64 J) ∧ Below w.heap.size w w' := by
  have HQ := Lib.hid hq
  obtain ⟨w0, hw0⟩ : ∃ w0, w0 = w.alloc (.cells (wvC a q c n m) 31) := ⟨_, rfl⟩
  have B0 : Hid (Below w.heap.size w w0) := Lib.hid (by rw [hw0]; exact (Below.refl _ _).alloc (Nat.le_refl _) _)
  have R0 : Hid (w0.heap[w.heap.size]? = some (.cells (wvC a q c n m) 31 (0, 0))) := Lib.hid (by rw [hw0]; exact heap_alloc_new w _)
  have HV := Lib.hid (hv.below B0.out)
  have HJ := Lib.hid hJ
  clear hv hq hJ
  go_enter Tryd.func31, Tryd.ntmps31
  go_wp2_with fail
  rw [← hw0]
  clear hw0
  go_loopw [5] (fun i wr => AtRel w0 K q r i wr) (fun i _ => (q - (intOf i).toNat))
  case atStart => exact ⟨0, rfl, Nat.zero_le _, fun i hi => absurd hi (Nat.not_lt_zero _), Below.refl _ _⟩
  case round =>
    obtain ⟨j, rfl, hj, hlow, hB⟩ := hrel
    have BB := Lib.hid hB
    have LOW := Lib.hid hlow
    clear hB hlow
    obtain ⟨x0, -, -⟩ := cells3 (below_block BB.out R0.out)
    by_cases hlt : j < q
    · obtain ⟨⟨r', F, u⟩, hy⟩ : ∃ y, K.getD j default = y := ⟨_, rfl⟩
      obtain ⟨b, rfl, hbl, hu, -, -⟩ := HV.out.at_ HQ.out hlt hy
      have y1 : wr.cell? ⟨b, j * 2, none⟩ = some (.int .i64 (r' : Int)) := (BB.out.cell (p := ⟨b, _, none⟩) hbl).trans hu
      by_cases he : (r' : Int) = r
      · have d0 : ((r' : Int) == r) = true := by simpa using he
        have hJj : J = (j : Int) := by
          rcases HJ.out with ⟨_, h⟩ | ⟨k, h1, h2, h3, h4⟩
          · exact absurd (by rw [hy]; exact he) (h j (by have := HQ.out; omega))
          · rcases Nat.lt_trichotomy j k with h | h | h
            · exact absurd (by rw [hy]; exact he) (h4 j h)
            · rw [h1, h]
            · exact absurd h3 (LOW.out k h)
        subst hJj
        clear hu hy
        go_wp2_with fail
        go_ret
        exact ⟨rfl, B0.out.trans (BB.out.mono B0.out.size)⟩
      · have d0 : ((r' : Int) == r) = false := by simpa using he
        have LOW2 : Hid (∀ i, i < j + 1 → ((K.getD i default).1 : Int) ≠ r) := Lib.hid fun i hi => by
          by_cases e : i = j
          · rw [e, hy]; exact he
          · exact LOW.out i (by omega)
        clear hu hy
        go_wp2_with fail
        go_roundw
        case rel => exact ⟨j + 1, by go_num, by omega, LOW2.out, BB.out⟩
        case measure => simp [intOf]; omega
    · obtain rfl : j = q := by omega
      obtain rfl : J = -1 := by
        rcases HJ.out with ⟨h, _⟩ | ⟨k, h1, h2, h3, h4⟩
        · exact h
        · exact absurd h3 (LOW.out k (by have := HQ.out; omega))
      go_wp2_with fail
      go_ret
      exact ⟨rfl, B0.out.trans (BB.out.mono B0.out.size)⟩
set_option maxHeartbeats 2000000 in
theorem rfits_ok (a : Option Addr) (q c n m : Nat) (p x k : Bool) (g : Int) (w : World) : Calls Tryd.prog 60 #[.agg (wvC a q c n m), ent p x k g] w fun e w' => e = .returned (.bool (fitV n (p, x, k, g))) ∧ Below w.heap.size w w' := by
  obtain ⟨w0, hw0⟩ : ∃ w0, w0 = (w.alloc (.cells (wvC a q c n m) 31)).alloc (.cells #[.bool p, .bool x, .bool k, .int .i64 g] 37) := ⟨_, rfl⟩
  have B0 : Hid (Below w.heap.size w w0) := Lib.hid (by rw [hw0]; exact below_two w _ _)
  have R0 : Hid (w0.heap[w.heap.size]? = some (.cells (wvC a q c n m) 31 (0, 0))) := Lib.hid (by rw [hw0]; exact heap_alloc2_old w _ _)
  have E0 : Hid (w0.heap[w.heap.size + 1]? = some (entO (p, x, k, g))) := Lib.hid (by rw [hw0]; exact heap_alloc2_new w _ _)
  unfold fitV fitB
  simp only
  obtain ⟨x0, x1, x2, x3⟩ := cells4 E0.out
  obtain ⟨y0, y1, y2⟩ := cells3 R0.out
  have hwe := hw0
  rw [hw0] at x0 x1 x2 x3 y0 y1 y2
  cases hok : okE p x k g with
  | false =>
    rw [Bool.and_false, Bool.and_false]
    go_enter Tryd.func60, Tryd.ntmps60
    go_wp2_with fail
    rw [← hwe]
    refine (rcheck_no p x k g _ hok).mono ?_
    rintro e w1 ⟨rfl, hb⟩
    have B1 := Lib.hid (B0.out.trans (hb.mono B0.out.size))
    clear hb x0 x1 x2 x3 y0 y1 y2
    go_wp2_with fail
    go_ret
    exact ⟨rfl, B1.out⟩
  | true =>
    cases p with
    | false =>
      rw [Bool.false_and]
      go_enter Tryd.func60, Tryd.ntmps60
      go_wp2_with fail
      rw [← hwe]
      refine (rcheck_yes false x k g _ hok).mono ?_
      rintro e w1 ⟨rfl, hb⟩
      have B1 := Lib.hid (B0.out.trans (hb.mono B0.out.size))
      clear x0 x1 x2 x3 y0 y1 y2
      obtain ⟨x0, x1, x2, x3⟩ := cells4 (below_block hb E0.out)
      clear hb
      go_wp2_with fail
      go_ret
      exact ⟨rfl, B1.out⟩
    | true =>
      rw [Bool.true_and, Bool.and_true]
      go_enter Tryd.func60, Tryd.ntmps60
      go_wp2_with fail
      rw [← hwe]
      refine (rcheck_yes true x k g _ hok).mono ?_
      rintro e w1 ⟨rfl, hb⟩
      have B1 := Lib.hid (B0.out.trans (hb.mono B0.out.size))
      clear x0 x1 x2 x3 y0 y1 y2
      obtain ⟨x0, x1, x2, x3⟩ := cells4 (below_block hb E0.out)
      obtain ⟨y0, y1, y2⟩ := cells3 (below_block hb R0.out)
      clear hb
      go_wp2_with fail
      go_ret
      exact ⟨rfl, B1.out⟩
/-- What stands against a page of a space. -/
theorem askErr_bad {W : Nat → Option Sp} {r pg : Int} {b : Bool} (h : pg < 0 ∨ 1023 < pg ∨ b = false) : askErr W r pg b = 2 := by
  apply askErr_out
  rintro ⟨⟨h1, h2⟩, h3⟩
  rcases h with h | h | h
  · omega
  · omega
  · rw [h] at h3; cases h3
theorem AtIs.of {W : Nat → Option Sp} {K : List Rec} (h : Match W K) (r : Int) : ∃ J, AtIs K r J ∧ ((J = -1 ∧ spOf W r = none) ∨ ∃ (j k : Nat) (F : Sp) (u : Value), J = (j : Int) ∧ r = (k : Int) ∧ j < K.length ∧ K.getD j default = (k, F, u) ∧ spOf W r = some F ∧ W k = some F) := by
  rcases h.find r with ⟨h1, h2⟩ | ⟨j, k, F, u, h1, h2, h3, h4, h5, h6⟩
  · exact ⟨-1, Or.inl ⟨rfl, h2⟩, Or.inl ⟨rfl, h1⟩⟩
  · exact ⟨j, Or.inr ⟨j, rfl, h2, by rw [h3, h1], h6⟩, Or.inr ⟨j, k, F, u, rfl, h1, h2, h3, h4, h5⟩⟩
set_option maxHeartbeats 2000000 in
theorem rasked_ok (W : Nat → Option Sp) (K : List Rec) (a : Option Addr) (q c n m : Nat) (r pg : Int) (fine : Bool) (w : World) (hq : q = K.length) (hl : q ≤ 100) (hv : SpV w (.slice a q c) K) (hm : Match W K) : Calls Tryd.prog 59 #[.agg (wvC a q c n m), .int .i64 r, .int .i64 pg, .bool fine] w fun e w' => e = .returned (.int .i64 (askErr W r pg fine)) ∧ Below w.heap.size w w' := by
  obtain ⟨w0, hw0⟩ : ∃ w0, w0 = w.alloc (.cells (wvC a q c n m) 31) := ⟨_, rfl⟩
  have B0 : Hid (Below w.heap.size w w0) := Lib.hid (by rw [hw0]; exact (Below.refl _ _).alloc (Nat.le_refl _) _)
  have R0 : Hid (w0.heap[w.heap.size]? = some (.cells (wvC a q c n m) 31 (0, 0))) := Lib.hid (by rw [hw0]; exact heap_alloc_new w _)
  have HV := Lib.hid (hv.below B0.out)
  have HQ := Lib.hid hq
  have HM := Lib.hid hm
  clear hv hq hm
  by_cases h1 : pg < 0
  · have d1 : decide (pg < 0) = true := decide_eq_true h1
    rw [askErr_bad (Or.inl h1)]
    go_enter Tryd.func59, Tryd.ntmps59
    go_wp2_with fail
    go_ret
    exact ⟨rfl, (Below.refl _ _).alloc (Nat.le_refl _) _⟩
  have d1 : decide (pg < 0) = false := decide_eq_false h1
  by_cases h2 : 1023 < pg
  · have d2 : decide (1023 < pg) = true := decide_eq_true h2
    rw [askErr_bad (Or.inr (Or.inl h2))]
    go_enter Tryd.func59, Tryd.ntmps59
    go_wp2_with fail
    go_ret
    exact ⟨rfl, (Below.refl _ _).alloc (Nat.le_refl _) _⟩
  have d2 : decide (1023 < pg) = false := decide_eq_false h2
  cases fine with
  | false =>
    rw [askErr_bad (Or.inr (Or.inr rfl))]
    go_enter Tryd.func59, Tryd.ntmps59
    go_wp2_with fail
    go_ret
    exact ⟨rfl, (Below.refl _ _).alloc (Nat.le_refl _) _⟩
  | true =>
    obtain ⟨J, hJ, hJ2⟩ := AtIs.of HM.out r
    obtain ⟨y0, y1, y2⟩ := cells3 R0.out
    have hwe := hw0
    rw [hw0] at y0 y1 y2
    have dJ : decide (J < 0) = !(spOf W r).isSome := by
      rcases hJ2 with ⟨rfl, h⟩ | ⟨j, k, F, u, rfl, _, _, _, h, _⟩
      · rw [h]; rfl
      · rw [h]; exact decide_eq_false (by omega)
    have HJ := Lib.hid hJ
    clear hJ hJ2
    cases hs : (spOf W r).isSome with
    | false =>
      rw [askErr_no ⟨⟨by omega, by omega⟩, rfl⟩ hs]
      rw [hs] at dJ
      simp only [Bool.not_false] at dJ
      go_enter Tryd.func59, Tryd.ntmps59
      go_wp2_with fail
      rw [← hwe]
      refine (rat_ok K a q c n m r J w0 HQ.out hl HV.out HJ.out).mono ?_
      rintro e w1 ⟨rfl, hb⟩
      have B1 := Lib.hid (B0.out.trans (hb.mono B0.out.size))
      clear hb y0 y1 y2
      go_wp2_with fail
      go_ret
      exact ⟨rfl, B1.out⟩
    | true =>
      rw [askErr_yes ⟨⟨by omega, by omega⟩, rfl⟩ hs]
      rw [hs] at dJ
      simp only [Bool.not_true] at dJ
      go_enter Tryd.func59, Tryd.ntmps59
      go_wp2_with fail
      rw [← hwe]
      refine (rat_ok K a q c n m r J w0 HQ.out hl HV.out HJ.out).mono ?_
      rintro e w1 ⟨rfl, hb⟩
      have B1 := Lib.hid (B0.out.trans (hb.mono B0.out.size))
      clear hb y0 y1 y2
      go_wp2_with fail
      go_ret
      exact ⟨rfl, B1.out⟩
end Go.Proofs.YtkcecfghfohjcaaDoor

/- The contract of the document's Query. No condition. -/
namespace Go.Proofs.YtkcecfghfohjcaaDoor
open Go.RowKit Go.Maps
set_option maxRecDepth 100000

theorem ask_no0 {W : Nat → Option Sp} {r pg : Int} {b : Bool} (hs : spOf W r = none) : askErr W r pg b ≠ 0 := by
  by_cases h : (0 ≤ pg ∧ pg < 1024) ∧ b = true
  · rw [askErr_no h (by rw [hs]; rfl)]; decide
  · rw [askErr_out h]; decide
theorem unm_no {W : Nat → Option Sp} {r pg : Int} (hs : spOf W r = none) : unmErr W r pg ≠ 0 ∧ unmE' W r pg = z0 := by
  have h : unmErr W r pg ≠ 0 := by unfold unmErr; rw [if_neg (ask_no0 hs)]; exact ask_no0 hs
  exact ⟨h, by unfold unmE'; rw [if_neg h]⟩
theorem unm_far {W : Nat → Option Sp} {r pg : Int} {F : Sp} (hs : spOf W r = some F) (hb : mapB F pg = false) : unmErr W r pg ≠ 0 ∧ unmE' W r pg = z0 := by
  have h : unmErr W r pg ≠ 0 := fun h0 => by
    obtain ⟨k, p, F', rfl, rfl, hp, _, hF, hf⟩ := unmErr_zero h0
    rw [hs] at hF
    cases hF
    unfold mapB at hb
    rw [Int.toNat_natCast, hf, decide_eq_true (show 0 ≤ (p : Int) ∧ (p : Int) < 1024 by omega)] at hb
    cases hb
  exact ⟨h, by unfold unmE'; rw [if_neg h]⟩
theorem mapB_nat {F : Sp} {pg : Int} (h : mapB F pg = true) : ∃ p : Nat, pg = (p : Int) ∧ p < 1024 ∧ (F p).1 = true := by
  unfold mapB at h
  rw [Bool.and_eq_true, decide_eq_true_eq] at h
  obtain ⟨p, rfl⟩ := Int.eq_ofNat_of_zero_le h.1.1
  exact ⟨p, rfl, by omega, by rw [Int.toNat_natCast] at h; exact h.2⟩
theorem mapB_of {F : Sp} {p : Nat} (hp : p < 1024) : mapB F (p : Int) = (F p).1 := by
  unfold mapB
  rw [Int.toNat_natCast, decide_eq_true (show 0 ≤ (p : Int) ∧ (p : Int) < 1024 by omega), Bool.true_and]
theorem unm_in {W : Nat → Option Sp} {r : Int} {F : Sp} {p : Nat} (hs : spOf W r = some F) (hp : p < 1024) (hf : (F p).1 = true) : unmErr W r (p : Int) = 0 ∧ unmE' W r (p : Int) = F p := by
  have h : unmErr W r (p : Int) = 0 := by rw [unmErr_in hs hp, if_pos hf]
  refine ⟨h, ?_⟩
  unfold unmE' entW
  rw [if_pos h, hs]; simp
theorem MapsAt.row_ {w : World} {a : Option Addr} {n c : Nat} {l : List MapE} (h : MapsAt w (.slice a n c) l) (hn : n = l.length) {j : Nat} (hj : j < n) {pg : Int} {p x k : Bool} {g : Int} (hy : l.getD j default = (pg, p, x, k, g)) : ∃ b, a = some ⟨b, 0, none⟩ ∧ b < w.heap.size ∧ w.cell? ⟨b, j * 5, none⟩ = some (.int .i64 pg) ∧ w.cell? ⟨b, j * 5 + 1, none⟩ = some (.bool p) ∧ w.cell? ⟨b, j * 5 + 2, none⟩ = some (.bool x) ∧ w.cell? ⟨b, j * 5 + 3, none⟩ = some (.bool k) ∧ w.cell? ⟨b, j * 5 + 4, none⟩ = some (.int .i64 g) := by
  obtain ⟨a', c', he, h⟩ := h
  injection he with e1
  subst e1
  rcases h with rfl | ⟨b, rfl, hb, hc⟩
  · simp at hn; omega
  · have := hc j (by omega)
    rw [hy] at this
    exact ⟨b, rfl, hb, this⟩
set_option maxHeartbeats 400000 in
theorem rquery_ok (W : Nat → Option Sp) (K : List Rec) (a : Option Addr) (q c n m : Nat) (r pg : Int) {p x k : Bool} {g : Int} (w : World) (hq : q = K.length) (hl : q ≤ 100) (hv : SpV w (.slice a q c) K) (hm : Match W K) (he : unmE' W r pg = (p, x, k, g)) :
    Calls Tryd.prog 16 #[.agg (wvC a q c n m), .int .i64 r, .int .i64 pg] w fun e w' => e = .returned (.tuple #[ent p x k g, .bool (decide (unmErr W r pg = 0))]) ∧ Below w.heap.size w w' := by
  obtain ⟨w0, hw0⟩ : ∃ w0, w0 = (w.alloc (.cells (wvC a q c n m) 31)).alloc (.cells #[.bool false, .bool false, .bool false, .int .i64 0] 37) := ⟨_, rfl⟩
  have B0 : Hid (Below w.heap.size w w0) := Lib.hid (by rw [hw0]; exact below_two w _ _)
  have R0 : Hid (w0.heap[w.heap.size]? = some (.cells (wvC a q c n m) 31 (0, 0))) := Lib.hid (by rw [hw0]; exact heap_alloc2_old w _ _)
  have E0 : Hid (w0.heap[w.heap.size + 1]? = some (.cells #[.bool false, .bool false, .bool false, .int .i64 0] 37 (0, 0))) := Lib.hid (by rw [hw0]; exact heap_alloc2_new w _ _)
  have HV := Lib.hid (hv.below B0.out)
  have HQ := Lib.hid hq
  obtain ⟨y0, y1, y2⟩ := cells3 R0.out
  have hwe := Lib.hid hw0
  rw [hw0] at y0 y1 y2
  obtain ⟨J, hJ, hJ2⟩ := AtIs.of hm r
  have HJ := Lib.hid hJ
  have HE := Lib.hid he
  clear hv hq hm hJ he
  rcases hJ2 with ⟨rfl, hs⟩ | ⟨j, k', F, u, rfl, rfl, hj, hy, hs, -⟩
  · obtain ⟨h1, h2⟩ := unm_no (pg := pg) hs
    rw [h2] at HE
    obtain ⟨rfl, rfl, rfl, rfl⟩ : false = p ∧ false = x ∧ false = k ∧ (0 : Int) = g := by
      have := HE.out
      simp only [z0, Prod.mk.injEq] at this
      exact this
    rw [decide_eq_false h1]
    clear hs h1 h2 HE hw0
    go_enter Tryd.func16, Tryd.ntmps16
    go_wp2_with fail
    rw [← hwe.out]
    refine (rat_ok K a q c n m r _ w0 HQ.out hl HV.out HJ.out).mono ?_
    rintro e w1 ⟨rfl, hb⟩
    have B1 := Lib.hid (B0.out.trans (hb.mono B0.out.size))
    have E1 := Lib.hid (below_block hb E0.out)
    clear hb y0 y1 y2
    have f0 := frozen_of_row _ (w.heap.size + 1) 0 _ _ E1.out
    have f1 := frozen_of_row _ (w.heap.size + 1) 1 _ _ E1.out
    have f2 := frozen_of_row _ (w.heap.size + 1) 2 _ _ E1.out
    have f3 := frozen_of_row _ (w.heap.size + 1) 3 _ _ E1.out
    obtain ⟨d0, d1, d2, d3⟩ := cells4 (e := z0) E1.out
    go_wp2
    have Q5 := put4b_same (e := z0) (e' := z0) E1.out
    obtain ⟨e0, e1, e2, e3⟩ := cells4 Q5
    simp only [put4b, z0] at e0 e1 e2 e3
    refine bodyPost_ret (v := .tuple #[entV z0, .bool false]) ?_ rfl ⟨rfl, put4b_below (e' := z0) B1.out (by omega)⟩
    simp [results, Tryd.results16, go_sem, e0, e1, e2, e3, entV, z0]
  · obtain ⟨b, rfl, hbl, hr, hu, hmp⟩ := HV.out.at_ HQ.out (show j < q by have := HQ.out; omega) hy
    have hjq : j < q := by have := HQ.out; omega
    have CB : Hid (∀ V, Below w0.heap.size w0 V → V.heap[w.heap.size]? = some (.cells (wvC (some ⟨b, 0, none⟩) q c n m) 31 (0, 0)) ∧ V.cell? ⟨b, j * 2 + 1, none⟩ = some u ∧ MapsAt V u (allF F)) := Lib.hid fun V hB => ⟨below_block hB R0.out, (hB.cell (p := ⟨b, _, none⟩) hbl).trans hu, hmp.below hB⟩
    obtain ⟨au, cu, rfl, -⟩ := id hmp
    clear hr hu hy hj hmp
    have HS := Lib.hid hs
    clear hs hw0
    obtain ⟨dd, hdd⟩ : ∃ dd, decide (unmErr W (k' : Int) pg = 0) = dd := ⟨_, rfl⟩
    rw [hdd]
    have DD := Lib.hid hdd
    clear hdd
    go_enter Tryd.func16, Tryd.ntmps16
    go_wp2_with fail
    rw [← hwe.out]
    refine (rat_ok K _ q c n m _ _ w0 HQ.out hl HV.out HJ.out).mono ?_
    rintro e w1 ⟨rfl, hb⟩
    have B1 := Lib.hid hb
    clear hb y0 y1 y2
    obtain ⟨z0', z1', z2'⟩ := CB.out w1 B1.out
    obtain ⟨y0, y1, y2⟩ := cells3 z0'
    have MP := Lib.hid z2'
    clear z0' z2'
    go_wp2_with fail
    refine (rplace_ok F _ pg w1 MP.out).mono ?_
    rintro e w2 ⟨rfl, hb⟩
    have B2 := Lib.hid (B1.out.trans (hb.mono B1.out.size))
    have E1 := Lib.hid (below_block B2.out E0.out)
    have B3 := Lib.hid (B0.out.trans (B2.out.mono B0.out.size))
    clear hb y0 y1 y2 z1'
    cases hmb : mapB F pg with
    | false =>
      obtain ⟨h1, h2⟩ := unm_far HS.out hmb
      rw [h2] at HE
      obtain ⟨rfl, rfl, rfl, rfl⟩ : false = p ∧ false = x ∧ false = k ∧ (0 : Int) = g := by
        have := HE.out
        simp only [z0, Prod.mk.injEq] at this
        exact this
      obtain rfl : dd = false := by rw [← DD.out]; exact decide_eq_false h1
      clear h1 h2 HE hmb
      have f0 := frozen_of_row _ (w.heap.size + 1) 0 _ _ E1.out
      have f1 := frozen_of_row _ (w.heap.size + 1) 1 _ _ E1.out
      have f2 := frozen_of_row _ (w.heap.size + 1) 2 _ _ E1.out
      have f3 := frozen_of_row _ (w.heap.size + 1) 3 _ _ E1.out
      obtain ⟨d0, d1, d2, d3⟩ := cells4 (e := z0) E1.out
      go_wp2
      have Q5 := put4b_same (e := z0) (e' := z0) E1.out
      obtain ⟨e0, e1, e2, e3⟩ := cells4 Q5
      simp only [put4b, z0] at e0 e1 e2 e3
      refine bodyPost_ret (v := .tuple #[entV z0, .bool false]) ?_ rfl ⟨rfl, put4b_below (e' := z0) B3.out (by omega)⟩
      simp [results, Tryd.results16, go_sem, e0, e1, e2, e3, entV, z0]
    | true =>
      obtain ⟨pn, rfl, hp, hf⟩ := mapB_nat hmb
      obtain ⟨h1, h2⟩ := unm_in HS.out hp hf
      obtain ⟨hlt, hget⟩ := plF_get hp hf
      rw [h2] at HE
      rw [HE.out] at hget
      obtain rfl : dd = true := by rw [← DD.out]; exact decide_eq_true h1
      clear h1 h2 HE hmb hf hp
      obtain ⟨P, hP⟩ : ∃ P, plF F (pn : Int) = P := ⟨_, rfl⟩
      rw [hP] at hlt hget ⊢
      have HG := Lib.hid hget
      clear hP hget
      obtain ⟨z0', z1', z2'⟩ := CB.out w2 B2.out
      obtain ⟨y0, y1, y2⟩ := cells3 z0'
      obtain ⟨b', rfl, hbl', m0, m1, m2, m3, m4⟩ := z2'.row_ rfl hlt HG.out
      have f0 := frozen_of_row _ (w.heap.size + 1) 0 _ _ E1.out
      have f1 := frozen_of_row _ (w.heap.size + 1) 1 _ _ E1.out
      have f2 := frozen_of_row _ (w.heap.size + 1) 2 _ _ E1.out
      have f3 := frozen_of_row _ (w.heap.size + 1) 3 _ _ E1.out
      obtain ⟨d0, d1, d2, d3⟩ := cells4 (e := z0) E1.out
      clear z0' z2'
      go_wp2
      have Q5 := put4b_same (e := z0) (e' := (p, x, k, g)) E1.out
      obtain ⟨e0, e1, e2, e3⟩ := cells4 Q5
      simp only [put4b] at e0 e1 e2 e3
      refine bodyPost_ret (v := .tuple #[entV (p, x, k, g), .bool true]) ?_ rfl ⟨rfl, put4b_below (e' := (p, x, k, g)) B3.out (by omega)⟩
      simp [results, Tryd.results16, go_sem, e0, e1, e2, e3, entV]
end Go.Proofs.YtkcecfghfohjcaaDoor

/- The document's spaces where they lie: what calls leave of them, and what they leave of the program's. No condition. -/
namespace Go.Proofs.YtkcecfghfohjcaaDoor
open Go.RowKit Go.Maps
set_option maxRecDepth 100000

def spcV (K : List Rec) : List Value := K.flatMap fun y => [.int .i64 (y.1 : Int), y.2.2]
theorem spcV_app (A B : List Rec) : spcV (A ++ B) = spcV A ++ spcV B := by simp [spcV]
theorem spcV_one (y : Rec) : spcV [y] = [.int .i64 (y.1 : Int), y.2.2] := by simp [spcV]
theorem spcV_length : ∀ K : List Rec, (spcV K).length = K.length * 2
  | [] => rfl
  | y :: r => by
    have e : spcV (y :: r) = [.int .i64 (y.1 : Int), y.2.2] ++ spcV r := rfl
    rw [e, List.length_append, spcV_length r]; simp; omega
theorem spcV_get : ∀ (K : List Rec) (i : Nat), i < K.length → (spcV K)[i * 2]? = some (.int .i64 ((K.getD i default).1 : Int)) ∧ (spcV K)[i * 2 + 1]? = some (K.getD i default).2.2
  | [], i, h => by simp at h
  | y :: r, 0, _ => ⟨rfl, rfl⟩
  | y :: r, i + 1, h => by
    have e : spcV (y :: r) = [.int .i64 (y.1 : Int), y.2.2] ++ spcV r := rfl
    have h1 := spcV_get r i (by simpa using h)
    have g : ∀ j, (spcV (y :: r))[(i + 1) * 2 + j]? = (spcV r)[i * 2 + j]? := fun j => by
      rw [e, List.getElem?_append_right (by simp; omega)]
      congr 1
      simp; omega
    refine ⟨(g 0).trans ?_, (g 1).trans ?_⟩
    · simpa using h1.1
    · simpa using h1.2
theorem spcV_set {K : List Rec} {j : Nat} {k : Nat} {F F' : Sp} {u : Value} (u' : Value) (hj : j < K.length) (hy : K.getD j default = (k, F, u)) : (spcV K).set (j * 2 + 1) u' = spcV (K.set j (k, F', u')) := by
  have hl : (spcV (K.take j)).length = j * 2 := by rw [spcV_length, List.length_take]; omega
  rw [set_split _ hj]
  conv => lhs; rw [split_at hj hy]
  rw [spcV_app, spcV_app, spcV_app, spcV_app, spcV_one, spcV_one, List.append_assoc, List.append_assoc, List.set_append_right _ _ (by omega), hl]
  simp [show j * 2 + 1 - j * 2 = 1 by omega]
/-- The document's spaces in memory. -/
structure RefW (base : Nat) (w : World) (wb n m : Nat) (a : Option Addr) (c : Nat) (K : List Rec) : Prop where
  low : base ≤ wb
  box : w.heap[wb]? = some (.cells #[.slice a K.length c, .int .i64 (n : Int), .int .i64 (m : Int)] 31 (0, 0))
  row : w.ownsRow base 50 2 (.slice a K.length c) K.length (spcV K)
  maps : ∀ i, i < K.length → w.ownsRow base 75 5 (K.getD i default).2.2 (allF (K.getD i default).2.1).length (mapsV (allF (K.getD i default).2.1))
theorem RefW.step {base : Nat} {w w' : World} {wb n m c : Nat} {a : Option Addr} {K : List Rec} (h : RefW base w wb n m a c K) (hb : Below w.heap.size w w') : RefW base w' wb n m a c K :=
  ⟨h.low, below_block hb h.box, own_step h.row hb, fun i hi => own_step (h.maps i hi) hb⟩
theorem RefW.only {base : Nat} {w w' : World} {wb n m c : Nat} {a : Option Addr} {K : List Rec} {B : Nat → Prop} (h : RefW base w wb n m a c K) (ho : Only w w' B)
    (hB : ∀ k cs t, w.heap[k]? = some (.cells cs t (0, 0)) → t = 31 ∨ t = 50 ∨ t = 75 → ¬ B k) : RefW base w' wb n m a c K :=
  ⟨h.low, ho.kept h.box (hB _ _ _ h.box (Or.inl rfl)), ownsRow_only h.row ho (fun g hg => by obtain ⟨cs, hcs⟩ := own_block h.row hg; exact hB _ _ _ hcs (Or.inr (Or.inl rfl))),
    fun i hi => ownsRow_only (h.maps i hi) ho (fun g hg => by obtain ⟨cs, hcs⟩ := own_block (h.maps i hi) hg; exact hB _ _ _ hcs (Or.inr (Or.inr rfl)))⟩
theorem RefW.gone {base : Nat} {W0 w w' : World} {wb n m c tb sb n' m' c1 c2 : Nat} {a : Option Addr} {K : List Rec} {X : PIx} {Wf Wf' : Nat → Option Sp} (h : RefW base w wb n m a c K) (hs : Sys W0 w tb sb X n' m' c1 Wf) (hg : Gone W0 w w' tb sb X n' m' c2 Wf') : RefW base w' wb n m a c K :=
  h.only hg.only fun k cs t hk ht => hs.other hk (by rcases ht with rfl | rfl | rfl <;> exact ⟨by decide, by decide, by decide, by decide, by decide⟩)
theorem RefW.spv {base : Nat} {w : World} {wb n m c : Nat} {a : Option Addr} {K : List Rec} (h : RefW base w wb n m a c K) : SpV w (.slice a K.length c) K := by
  refine ⟨a, c, rfl, ?_⟩
  rcases h.row.2 with ⟨h1, h0⟩ | ⟨g, cap, cur, h1, hb, hgg, _⟩
  · exact Or.inl (List.eq_nil_of_length_eq_zero h0)
  · injection h1 with h1
    subst h1
    refine Or.inr ⟨g, rfl, lt_of_block hgg, fun i hi => ?_⟩
    obtain ⟨a0, a1⟩ := spcV_get K i hi
    have b0 := h.row.cells (g := g) rfl _ _ a0
    have b1 := h.row.cells (g := g) rfl _ _ a1
    rw [Addr.add_mid, Nat.zero_add] at b0 b1
    exact ⟨b0, b1, MapsAt.of_row (h.maps i hi)⟩
theorem RefW.put {base : Nat} {w : World} {wb n m c : Nat} {b j k : Nat} {F F' : Sp} {u u' : Value} {K : List Rec} (h : RefW base w wb n m (some ⟨b, 0, none⟩) c K) (hj : j < K.length) (hy : K.getD j default = (k, F, u)) (hu : w.ownsRow base 75 5 u' (allF F').length (mapsV (allF F'))) :
    RefW base (w.setCell ⟨b, j * 2 + 1, none⟩ u') wb n m (some ⟨b, 0, none⟩) c (K.set j (k, F', u')) ∧ Only w (w.setCell ⟨b, j * 2 + 1, none⟩ u') (fun x => x = b) := by
  obtain ⟨h1, h2⟩ := h.row.stored (j * 2 + 1) u'
  have ho : Only w (w.setCell ⟨b, j * 2 + 1, none⟩ u') (fun x => x = b) := Only.grown h2 rfl
  obtain ⟨cs, hcs⟩ := own_block h.row (g := b) rfl
  have hne : ∀ x cs' t, w.heap[x]? = some (.cells cs' t (0, 0)) → t ≠ 50 → ¬ x = b := fun x cs' t hx ht e => by
    rw [e, hcs] at hx
    cases hx
    exact ht rfl
  refine ⟨⟨h.low, ?_, ?_, fun i hi => ?_⟩, ho⟩
  · rw [List.length_set]; exact ho.kept h.box (hne _ _ _ h.box (by decide))
  · rw [List.length_set, ← spcV_set u' hj hy]; exact h1
  · rw [List.length_set] at hi
    have g : (K.set j (k, F', u')).getD i default = if i = j then (k, F', u') else K.getD i default := by
      rw [List.getD_eq_getElem?_getD, List.getElem?_set]
      by_cases e : i = j
      · subst e; simp [hj]
      · rw [if_neg (Ne.symm e), if_neg e, List.getD_eq_getElem?_getD]
    rw [g]
    have kp : ∀ {v : Value} {q : Nat} {xs : List Value}, w.ownsRow base 75 5 v q xs → (w.setCell ⟨b, j * 2 + 1, none⟩ u').ownsRow base 75 5 v q xs := fun hr => ownsRow_only hr ho fun g hg => by
      obtain ⟨cs', hcs'⟩ := own_block hr hg
      exact hne _ _ _ hcs' (by decide)
    by_cases e : i = j
    · rw [if_pos e]; exact kp hu
    · rw [if_neg e]; exact kp (h.maps i hi)
/-- The program's side, when blocks of other kinds change. -/
theorem Sys.apart {W0 w w' : World} {tb sb n m c : Nat} {X : PIx} {W : Nat → Option Sp} {B : Nat → Prop} (h : Sys W0 w tb sb X n m c W) (ho : Only w w' B)
    (hB : ∀ k, B k → W0.heap.size ≤ k ∧ ∃ cs t, w.heap[k]? = some (.cells cs t (0, 0)) ∧ t ≠ 55 ∧ t ≠ 162 ∧ t ≠ 129 ∧ t ≠ 121 ∧ t ≠ 117 ∧ t ≠ 89) : Sys W0 w' tb sb X n m c W := by
  obtain ⟨L, R, S, O, k1, k2, k3⟩ := h.ex
  have hap : ∀ j, X.all j → ¬ B j := fun j hj e => by
    obtain ⟨_, cs, t, hcs, _, ht⟩ := hB j e
    exact k1.own.st.other hcs ht hj
  refine ⟨⟨L, R, S, O, ⟨⟨k1.own.st.kept ho hap, ho.old k1.own.below k1.own.below.size (fun j e => (hB j e).1), k1.own.new, k1.own.laid⟩, k1.lw, k1.wd, ho.kept k1.box (fun e => ?_), k1.spc.same (ho.block _ k1.spc.lt (fun e => ?_)), k1.nt, k1.ns, k1.ne, k1.low⟩, k2, k3⟩, h.hn, h.hP⟩
  · obtain ⟨_, cs, t, hcs, hm, _⟩ := hB _ e
    rw [k1.box] at hcs
    cases hcs
    exact hm rfl
  · obtain ⟨_, cs, t, hcs, _⟩ := hB _ e
    obtain ⟨es, ck, hmp⟩ := k1.spc.isMap
    rw [hmp] at hcs; cases hcs
theorem mapsV_one' {l : List MapE} : ∀ u ∈ mapsV l, u.oneCell' = true := fun u hu => by
  obtain ⟨y, _, hy⟩ := List.mem_flatMap.1 hu
  simp only [List.mem_cons, List.not_mem_nil, or_false] at hy
  rcases hy with rfl | rfl | rfl | rfl | rfl <;> rfl
theorem mapsV_at {w : World} {b : Nat} {l : List MapE} (h : ∀ i, i < l.length →
    w.cell? ⟨b, i * 5, none⟩ = some (.int .i64 (l.getD i default).1) ∧ w.cell? ⟨b, i * 5 + 1, none⟩ = some (.bool (l.getD i default).2.1) ∧ w.cell? ⟨b, i * 5 + 2, none⟩ = some (.bool (l.getD i default).2.2.1) ∧ w.cell? ⟨b, i * 5 + 3, none⟩ = some (.bool (l.getD i default).2.2.2.1) ∧ w.cell? ⟨b, i * 5 + 4, none⟩ = some (.int .i64 (l.getD i default).2.2.2.2)) (j : Nat) (u : Value) (hu : (mapsV l)[j]? = some u) : w.cell? ⟨b, j, none⟩ = some u := by
  have hj : j < l.length * 5 := by have := (List.getElem?_eq_some_iff.1 hu).1; rw [mapsV_length] at this; exact this
  obtain ⟨a0, a1, a2, a3, a4⟩ := mapsV_get l (j / 5) (by omega)
  obtain ⟨c0, c1, c2, c3, c4⟩ := h (j / 5) (by omega)
  rcases (show j = j / 5 * 5 ∨ j = j / 5 * 5 + 1 ∨ j = j / 5 * 5 + 2 ∨ j = j / 5 * 5 + 3 ∨ j = j / 5 * 5 + 4 by omega) with e | e | e | e | e
  · rw [e, a0] at hu; rw [e, c0]; exact hu
  · rw [e, a1] at hu; rw [e, c1]; exact hu
  · rw [e, a2] at hu; rw [e, c2]; exact hu
  · rw [e, a3] at hu; rw [e, c3]; exact hu
  · rw [e, a4] at hu; rw [e, c4]; exact hu
/-- A row cut in two. -/
theorem row_cut {w : World} {base q n : Nat} {e : TypeId} {v : Value} {xs : List Value} (h : w.ownsRow base e q v n xs) (i : Nat) : (v = .slice none 0 0 ∧ n = 0) ∨ ∃ b c, v = .slice (some ⟨b, 0, none⟩) n c ∧ n ≤ c ∧ c ≤ maxLen ∧ b < w.heap.size ∧
    (∀ j u, (xs.take (i * q))[j]? = some u → w.cell? ((⟨b, 0, none⟩ : Addr).add j) = some u) ∧ (∀ j u, (xs.drop (i * q))[j]? = some u → w.cell? ((⟨b, i * q, none⟩ : Addr).add j) = some u) := by
  have hc := h
  rcases h.2 with ⟨h1, h0⟩ | ⟨g, cap, cur, rfl, hb, hgg, hnc, hcm, _⟩
  · exact Or.inl ⟨h1, h0⟩
  · refine Or.inr ⟨g, cap, rfl, hnc, hcm, lt_of_block hgg, fun j u hu => ?_, fun j u hu => ?_⟩
    · rw [List.getElem?_take] at hu
      split at hu
      · exact hc.cells (g := g) rfl j u hu
      · cases hu
    · rw [List.getElem?_drop] at hu
      have := hc.cells (g := g) rfl _ u hu
      rw [Addr.add_mid, Nat.zero_add] at this
      rw [Addr.add_mid]; exact this
theorem mapsV_take (l : List MapE) (i : Nat) (hi : i ≤ l.length) : (mapsV l).take (i * 5) = mapsV (l.take i) := by
  have e : mapsV l = mapsV (l.take i) ++ mapsV (l.drop i) := by rw [← mapsV_append, List.take_append_drop]
  have hl : (mapsV (l.take i)).length = i * 5 := by rw [mapsV_length, List.length_take]; omega
  rw [e, ← hl, List.take_left]
theorem mapsV_drop (l : List MapE) (i : Nat) (hi : i ≤ l.length) : (mapsV l).drop (i * 5) = mapsV (l.drop i) := by
  have e : mapsV l = mapsV (l.take i) ++ mapsV (l.drop i) := by rw [← mapsV_append, List.take_append_drop]
  have hl : (mapsV (l.take i)).length = i * 5 := by rw [mapsV_length, List.length_take]; omega
  conv => lhs; rw [e, ← hl]
  rw [List.drop_left]
theorem spcV_take (K : List Rec) (i : Nat) (hi : i ≤ K.length) : (spcV K).take (i * 2) = spcV (K.take i) := by
  have e : spcV K = spcV (K.take i) ++ spcV (K.drop i) := by rw [← spcV_app, List.take_append_drop]
  have hl : (spcV (K.take i)).length = i * 2 := by rw [spcV_length, List.length_take]; omega
  rw [e, ← hl, List.take_left]
theorem spcV_drop (K : List Rec) (i : Nat) (hi : i ≤ K.length) : (spcV K).drop (i * 2) = spcV (K.drop i) := by
  have e : spcV K = spcV (K.take i) ++ spcV (K.drop i) := by rw [← spcV_app, List.take_append_drop]
  have hl : (spcV (K.take i)).length = i * 2 := by rw [spcV_length, List.length_take]; omega
  conv => lhs; rw [e, ← hl]
  rw [List.drop_left]
end Go.Proofs.YtkcecfghfohjcaaDoor
