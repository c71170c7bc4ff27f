/- Lists alone: areas of pages (from, many, write); their one form is the only one; what is added, cut, set. No condition; nothing of a program. -/
import Derived.Test.YtmfpoagimedhnaaA0
namespace Go.Proofs.Ytmfpoagimedhnaa
set_option maxRecDepth 100000

abbrev Ar := Int × Int × Bool
/-- There are these pages, and at least one. -/
def FitD (f m : Int) : Prop := 0 ≤ f ∧ 1 ≤ m ∧ m ≤ 1024 - f
instance (f m : Int) : Decidable (FitD f m) := by unfold FitD; infer_instance
/-- The one may stand behind the other. -/
def FolD (x y : Ar) : Prop := x.1 + x.2.1 < y.1 ∨ x.1 + x.2.1 = y.1 ∧ y.2.2 ≠ x.2.2
instance (x y : Ar) : Decidable (FolD x y) := by unfold FolD; infer_instance
def HasD (x : Ar) (p : Int) : Prop := x.1 ≤ p ∧ p < x.1 + x.2.1
instance (x : Ar) (p : Int) : Decidable (HasD x p) := by unfold HasD; infer_instance
structure UpD (L : List Ar) : Prop where
  fit : ∀ x ∈ L, FitD x.1 x.2.1
  ord : L.Pairwise FolD
/-- They are right. -/
structure OkD (L : List Ar) : Prop where
  few : L.length ≤ 8
  up : UpD L
/-- What a page is: in none, or in one with a Write. -/
def atD : List Ar → Int → Option Bool
  | [], _ => none
  | x :: r, p => if HasD x p then some x.2.2 else atD r p
theorem UpD.nil : UpD [] := ⟨by simp, List.Pairwise.nil⟩
theorem OkD.nil : OkD [] := ⟨by simp, UpD.nil⟩
theorem fol_le {x y : Ar} (h : FolD x y) : x.1 + x.2.1 ≤ y.1 := by unfold FolD at h; omega
theorem fol_trans {x y z : Ar} (h : FolD x y) (hy : FitD y.1 y.2.1) (k : FolD y z) : FolD x z := by
  have := fol_le h
  have := fol_le k
  unfold FitD at hy
  left
  omega
theorem fol_has {x y : Ar} {p : Int} (h : FolD x y) (hx : HasD x p) : ¬ HasD y p := by
  have := fol_le h
  unfold HasD at hx ⊢
  omega
theorem UpD.tail {x : Ar} {r : List Ar} (h : UpD (x :: r)) : UpD r := ⟨fun y hy => h.fit y (List.mem_cons_of_mem _ hy), (List.pairwise_cons.1 h.ord).2⟩
theorem UpD.head {x : Ar} {r : List Ar} (h : UpD (x :: r)) : FitD x.1 x.2.1 ∧ ∀ y ∈ r, FolD x y := ⟨h.fit x (by simp), (List.pairwise_cons.1 h.ord).1⟩
theorem UpD.sub {L M : List Ar} (h : UpD L) (k : M.Sublist L) : UpD M := ⟨fun x hx => h.fit x (k.subset hx), h.ord.sublist k⟩
theorem UpD.sing {x : Ar} (h : FitD x.1 x.2.1) : UpD [x] := ⟨fun y hy => by rw [List.mem_singleton.1 hy]; exact h, List.pairwise_singleton _ _⟩
theorem upD_app {L M : List Ar} : UpD (L ++ M) ↔ UpD L ∧ UpD M ∧ ∀ x ∈ L, ∀ y ∈ M, FolD x y := by
  constructor
  · intro h
    obtain ⟨h1, h2, h3⟩ := List.pairwise_append.1 h.ord
    exact ⟨⟨fun x hx => h.fit x (List.mem_append_left _ hx), h1⟩, ⟨fun x hx => h.fit x (List.mem_append_right _ hx), h2⟩, h3⟩
  · rintro ⟨h1, h2, h3⟩
    exact ⟨fun x hx => (List.mem_append.1 hx).elim (h1.fit x) (h2.fit x), List.pairwise_append.2 ⟨h1.ord, h2.ord, h3⟩⟩
theorem atD_none {p : Int} : ∀ {L : List Ar}, (∀ x ∈ L, ¬ HasD x p) → atD L p = none
  | [], _ => rfl
  | x :: r, h => by
    rw [atD, if_neg (h x (by simp))]
    exact atD_none fun y hy => h y (List.mem_cons_of_mem _ hy)
theorem atD_some {p : Int} : ∀ {L : List Ar}, UpD L → ∀ {x : Ar}, x ∈ L → HasD x p → atD L p = some x.2.2
  | y :: r, h, x, hx, hp => by
    rw [atD]
    split
    · rename_i hy
      rcases List.mem_cons.1 hx with rfl | hx
      · rfl
      · exact absurd hp (fol_has (h.head.2 x hx) hy)
    · rename_i hy
      rcases List.mem_cons.1 hx with rfl | hx
      · exact absurd hp hy
      · exact atD_some h.tail hx hp
theorem atD_cases (L : List Ar) (p : Int) : (atD L p = none ∧ ∀ x ∈ L, ¬ HasD x p) ∨ ∃ x ∈ L, HasD x p ∧ atD L p = some x.2.2 := by
  induction L with
  | nil => exact Or.inl ⟨rfl, by simp⟩
  | cons x r ih =>
    by_cases hx : HasD x p
    · exact Or.inr ⟨x, by simp, hx, by rw [atD, if_pos hx]⟩
    · rw [atD, if_neg hx]
      rcases ih with ⟨h1, h2⟩ | ⟨y, h1, h2, h3⟩
      · exact Or.inl ⟨h1, fun y hy => (List.mem_cons.1 hy).elim (fun e => e ▸ hx) (h2 y)⟩
      · exact Or.inr ⟨y, List.mem_cons_of_mem _ h1, h2, h3⟩
theorem atD_app (L M : List Ar) (p : Int) : atD (L ++ M) p = if atD L p = none then atD M p else atD L p := by
  induction L with
  | nil => simp [atD]
  | cons x r ih =>
    rw [List.cons_append, atD, atD]
    split
    · simp
    · exact ih
theorem atD_range {L : List Ar} (h : UpD L) {p : Int} (hp : p < 0 ∨ 1024 ≤ p) : atD L p = none := atD_none fun x hx hh => by
  have := h.fit x hx
  unfold FitD at this
  unfold HasD at hh
  omega
/-- The one form is the only one. -/
theorem upD_uniq : ∀ {L M : List Ar}, UpD L → UpD M → (∀ p, atD L p = atD M p) → L = M
  | [], [], _, _, _ => rfl
  | x :: r, [], h, _, he => by
    have := he x.1
    rw [atD_some h (List.mem_cons_self) ⟨by omega, by have := h.head.1; unfold FitD at this; omega⟩] at this
    cases this
  | [], y :: s, _, h, he => by
    have := he y.1
    rw [atD_some h (List.mem_cons_self) ⟨by omega, by have := h.head.1; unfold FitD at this; omega⟩] at this
    cases this
  | x :: r, y :: s, hx, hy, he => by
    have fx := hx.head.1
    have fy := hy.head.1
    have low : ∀ {x : Ar} {r : List Ar}, UpD (x :: r) → ∀ p w, atD (x :: r) p = some w → x.1 ≤ p := by
      intro x r h p w hw
      rcases atD_cases (x :: r) p with ⟨h1, _⟩ | ⟨z, hz, hp, _⟩
      · rw [h1] at hw; cases hw
      · rcases List.mem_cons.1 hz with rfl | hz
        · exact hp.1
        · have := fol_le (h.head.2 z hz)
          have := h.head.1
          unfold FitD at this
          unfold HasD at hp
          omega
    have a1 : HasD x x.1 := ⟨by omega, by unfold FitD at fx; omega⟩
    have a2 : HasD y y.1 := ⟨by omega, by unfold FitD at fy; omega⟩
    have b1 := atD_some hx List.mem_cons_self a1
    have b2 := atD_some hy List.mem_cons_self a2
    have c1 := low hy x.1 _ ((he x.1).symm.trans b1)
    have c2 := low hx y.1 _ ((he y.1).trans b2)
    have e1 : x.1 = y.1 := by omega
    have e3 : x.2.2 = y.2.2 := by
      have := he x.1
      rw [b1, e1, b2] at this
      exact Option.some.inj this
    have nolt : ∀ {x y : Ar} {r s : List Ar}, UpD (x :: r) → UpD (y :: s) → (∀ p, atD (x :: r) p = atD (y :: s) p) → x.1 = y.1 → x.2.2 = y.2.2 → ¬ x.2.1 < y.2.1 := by
      intro x y r s hx hy he e1 e3 hlt
      have fx := hx.head.1
      have := he (x.1 + x.2.1)
      rw [atD_some hy List.mem_cons_self ⟨by unfold FitD at fx; omega, by omega⟩] at this
      rcases atD_cases (x :: r) (x.1 + x.2.1) with ⟨h1, _⟩ | ⟨z, hz, hp, hw⟩
      · rw [h1] at this; cases this
      · rcases List.mem_cons.1 hz with rfl | hz
        · unfold HasD at hp; omega
        · have hf := hx.head.2 z hz
          rw [hw] at this
          have ew := Option.some.inj this
          rcases hf with hf | ⟨hf, hn⟩
          · unfold HasD at hp; omega
          · exact hn (ew.trans e3.symm)
    have n1 := nolt hx hy he e1 e3
    have n2 := nolt hy hx (fun p => (he p).symm) e1.symm e3.symm
    have exy : x = y := Prod.ext e1 (Prod.ext (by omega) e3)
    subst exy
    rw [upD_uniq hx.tail hy.tail fun p => ?_]
    by_cases hp : HasD x p
    · rw [atD_none fun z hz => fol_has (hx.head.2 z hz) hp, atD_none fun z hz => fol_has (hy.head.2 z hz) hp]
    · have := he p
      rwa [atD, atD, if_neg hp, if_neg hp] at this
/-- No more than there are pages. -/
theorem UpD.len {L : List Ar} (h : UpD L) : L.length ≤ 1024 := by
  have key : ∀ {L : List Ar}, UpD L → ∀ e : Int, 0 ≤ e → (∀ x ∈ L, e ≤ x.1) → (L ≠ [] → (L.length : Int) ≤ 1024 - e) := by
    intro L
    induction L with
    | nil => intro _ _ _ _ hn; exact absurd rfl hn
    | cons x r ih =>
      intro h e he hl _
      have hx := h.head.1
      have := hl x List.mem_cons_self
      unfold FitD at hx
      by_cases hr : r = []
      · subst hr; simp; omega
      · have := ih h.tail (x.1 + x.2.1) (by omega) (fun y hy => fol_le (h.head.2 y hy)) hr
        rw [List.length_cons]
        omega
  by_cases hL : L = []
  · subst hL; simp
  · have := key h 0 (by omega) (fun x hx => by have := h.fit x hx; unfold FitD at this; omega) hL
    omega
/-- An area, and one behind it. -/
theorem upD_snoc {L : List Ar} {x : Ar} (h : UpD L) (hx : FitD x.1 x.2.1) (hl : ∀ y, L.getLast? = some y → FolD y x) : UpD (L ++ [x]) := by
  refine upD_app.2 ⟨h, UpD.sing hx, fun y hy z hz => ?_⟩
  obtain rfl := List.mem_singleton.1 hz
  by_cases hn : L = []
  · subst hn; simp at hy
  · have e := List.dropLast_concat_getLast hn
    have hlast := hl _ (List.getLast?_eq_some_getLast hn)
    rw [← e] at h hy
    rcases List.mem_append.1 hy with hy | hy
    · obtain ⟨_, h2, h3⟩ := upD_app.1 h
      exact fol_trans (h3 y hy _ (by simp)) (h2.fit _ (by simp)) hlast
    · rw [List.mem_singleton.1 hy]; exact hlast

/-- How many of n pages are so. -/
def cntD (P : Int → Bool) (f : Int) : Nat → Int
  | 0 => 0
  | n + 1 => cntD P f n + if P (f + n) then 1 else 0
theorem cntD_le (P : Int → Bool) (f : Int) (n : Nat) : 0 ≤ cntD P f n ∧ cntD P f n ≤ n := by
  induction n with
  | zero => simp [cntD]
  | succ n ih => rw [cntD]; split <;> omega
theorem cntD_all {P : Int → Bool} {f : Int} {n : Nat} : cntD P f n = n ↔ ∀ p, f ≤ p → p < f + n → P p = true := by
  induction n with
  | zero => simp only [cntD, Int.natCast_zero]; exact ⟨fun _ p h1 h2 => by omega, fun _ => trivial⟩
  | succ n ih =>
    have hl := cntD_le P f n
    rw [cntD]
    constructor
    · intro h p h1 h2
      split at h
      · rename_i hp
        by_cases e : p = f + n
        · rw [e]; exact hp
        · exact ih.1 (by omega) p h1 (by omega)
      · omega
    · intro h
      rw [if_pos (h _ (by omega) (by omega)), ih.2 fun p h1 h2 => h p h1 (by omega)]
      omega
theorem cntD_none {P : Int → Bool} {f : Int} {n : Nat} : cntD P f n = 0 ↔ ∀ p, f ≤ p → p < f + n → P p = false := by
  induction n with
  | zero => simp only [cntD, Int.natCast_zero]; exact ⟨fun _ p h1 h2 => by omega, fun _ => trivial⟩
  | succ n ih =>
    have hl := cntD_le P f n
    rw [cntD]
    constructor
    · intro h p h1 h2
      split at h
      · omega
      · rename_i hp
        by_cases e : p = f + n
        · rw [e]; simpa using hp
        · exact ih.1 (by omega) p h1 (by omega)
    · intro h
      rw [ih.2 fun p h1 h2 => h p h1 (by omega), if_neg (by rw [h _ (by omega) (by omega)]; simp)]
      omega
theorem cntD_congr {P Q : Int → Bool} (h : ∀ p, P p = Q p) (f : Int) (n : Nat) : cntD P f n = cntD Q f n := by rw [show P = Q from funext h]
theorem cntD_or {P Q R : Int → Bool} (h : ∀ p, P p = (Q p || R p)) (hn : ∀ p, Q p = true → R p = false) (f : Int) (n : Nat) : cntD P f n = cntD Q f n + cntD R f n := by
  induction n with
  | zero => simp [cntD]
  | succ n ih =>
    rw [cntD, cntD, cntD, ih, h]
    cases hq : Q (f + n) with
    | true => rw [hn _ hq]; simp; omega
    | false => cases R (f + n) <;> simp <;> omega
theorem cntD_has (x : Ar) (hx : FitD x.1 x.2.1) : cntD (fun p => decide (HasD x p)) 0 1024 = x.2.1 := by
  have key : ∀ n : Nat, cntD (fun p => decide (HasD x p)) 0 n = if (n : Int) ≤ x.1 then 0 else if (n : Int) ≤ x.1 + x.2.1 then n - x.1 else x.2.1 := by
    intro n
    induction n with
    | zero => simp only [cntD]; unfold FitD at hx; rw [if_pos (by omega)]
    | succ n ih =>
      rw [cntD, ih]
      unfold FitD at hx
      simp only [HasD, decide_eq_true_eq, Int.zero_add]
      repeat' split
      all_goals omega
  rw [key]
  unfold FitD at hx
  repeat' split
  all_goals omega
/-- All pages of a list. -/
def pagesD (L : List Ar) : Int := cntD (fun p => (atD L p).isSome) 0 1024
def sumD : List Ar → Int
  | [] => 0
  | x :: r => x.2.1 + sumD r
theorem pages_sum : ∀ {L : List Ar}, UpD L → pagesD L = sumD L
  | [], _ => by
    unfold pagesD sumD
    exact cntD_none.2 fun p _ _ => rfl
  | x :: r, h => by
    rw [sumD, ← pages_sum h.tail, ← cntD_has x h.head.1]
    refine cntD_or (fun p => ?_) (fun p hp => ?_) 0 1024
    · rw [atD]; by_cases hx : HasD x p <;> simp [hx]
    · rw [atD_none fun y hy => fol_has (h.head.2 y hy) (by simpa using hp)]; rfl
end Go.Proofs.Ytmfpoagimedhnaa
