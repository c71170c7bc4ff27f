/- Lists alone: what adding, cutting and setting answer; a form made page by page; areas joined, and cut, one by one. No condition; nothing of a program. -/
import Derived.Test.YtmfpoagimedhnaaD1
namespace Go.Proofs.Ytmfpoagimedhnaa
set_option maxRecDepth 100000

/-- What is answered of pages that are so: their one form, or that it is too long. -/
def AnsD (f : Int → Option Bool) (er : Int) (M : List Ar) : Prop := ∃ F, UpD F ∧ (∀ p, atD F p = f p) ∧ (F.length ≤ 8 ∧ er = 0 ∧ M = F ∨ 8 < F.length ∧ er = 3 ∧ M = [])
theorem AnsD.uniq {f g : Int → Option Bool} {er er' : Int} {M M' : List Ar} (h : AnsD f er M) (k : AnsD g er' M') (he : ∀ p, f p = g p) : er = er' ∧ M = M' := by
  obtain ⟨F, hF, hf, h⟩ := h
  obtain ⟨G, hG, hg, k⟩ := k
  obtain rfl := upD_uniq hF hG fun p => by rw [hf, he, hg]
  rcases h with ⟨h1, rfl, rfl⟩ | ⟨h1, rfl, rfl⟩ <;> rcases k with ⟨k1, rfl, rfl⟩ | ⟨k1, rfl, rfl⟩ <;> first | exact ⟨rfl, rfl⟩ | (exfalso; omega)
theorem AnsD.ok {f : Int → Option Bool} {M : List Ar} (h : AnsD f 0 M) : OkD M ∧ ∀ p, atD M p = f p := by
  obtain ⟨F, hF, hf, ⟨h1, _, rfl⟩ | ⟨_, h2, _⟩⟩ := h
  · exact ⟨⟨h1, hF⟩, hf⟩
  · cases h2
theorem AnsD.few {f : Int → Option Bool} {R : List Ar} (h : UpD R) (hf : ∀ p, atD R p = f p) (hl : R.length ≤ 8) : AnsD f 0 R := ⟨R, h, hf, Or.inl ⟨hl, rfl, rfl⟩⟩
theorem AnsD.many {f : Int → Option Bool} {R : List Ar} (h : UpD R) (hf : ∀ p, atD R p = f p) (hl : 8 < R.length) : AnsD f 3 [] := ⟨R, h, hf, Or.inr ⟨hl, rfl, rfl⟩⟩
theorem AnsD.er {f : Int → Option Bool} {er : Int} {M : List Ar} (h : AnsD f er M) : er = 0 ∨ er = 3 ∧ M = [] := by
  obtain ⟨F, hF, hf, ⟨h1, h2, h3⟩ | ⟨h1, h2, h3⟩⟩ := h
  · exact Or.inl h2
  · exact Or.inr ⟨h2, h3⟩
/-- Pages with those of an area. -/
def withD (a : Ar) (f : Int → Option Bool) (p : Int) : Option Bool := if HasD a p then some a.2.2 else f p
/-- Pages without some. -/
def lessD (f m : Int) (g : Int → Option Bool) (p : Int) : Option Bool := if f ≤ p ∧ p < f + m then none else g p
def AddD (L : List Ar) (a : Ar) (er : Int) (M : List Ar) : Prop := ¬ (OkD L ∧ FitD a.1 a.2.1) ∧ er = 2 ∧ M = [] ∨ (OkD L ∧ FitD a.1 a.2.1) ∧ ((¬ ∀ p, HasD a p → atD L p = none) ∧ er = 5 ∧ M = [] ∨ (∀ p, HasD a p → atD L p = none) ∧ AnsD (withD a (atD L)) er M)
def CovD (L : List Ar) (f m : Int) : Prop := ∀ p, f ≤ p → p < f + m → atD L p ≠ none
def CutD (L : List Ar) (f m : Int) (er : Int) (M : List Ar) : Prop := ¬ (OkD L ∧ FitD f m) ∧ er = 2 ∧ M = [] ∨ (OkD L ∧ FitD f m) ∧ (¬ CovD L f m ∧ er = 4 ∧ M = [] ∨ CovD L f m ∧ AnsD (lessD f m (atD L)) er M)
def SetD (L : List Ar) (f m : Int) (w : Bool) (er : Int) (M : List Ar) : Prop := ¬ (OkD L ∧ FitD f m) ∧ er = 2 ∧ M = [] ∨ (OkD L ∧ FitD f m) ∧ (¬ CovD L f m ∧ er = 4 ∧ M = [] ∨ CovD L f m ∧ AnsD (withD (f, m, w) (atD L)) er M)
theorem two_ways {A B : Prop} {f : Int → Option Bool} {e1 e2 er er' : Int} {M M' : List Ar} (h : ¬ A ∧ er = e1 ∧ M = [] ∨ A ∧ (¬ B ∧ er = e2 ∧ M = [] ∨ B ∧ AnsD f er M)) (k : ¬ A ∧ er' = e1 ∧ M' = [] ∨ A ∧ (¬ B ∧ er' = e2 ∧ M' = [] ∨ B ∧ AnsD f er' M')) : er = er' ∧ M = M' := by
  rcases h with ⟨h1, rfl, rfl⟩ | ⟨h1, ⟨h2, rfl, rfl⟩ | ⟨h2, h3⟩⟩ <;> rcases k with ⟨k1, rfl, rfl⟩ | ⟨k1, ⟨k2, rfl, rfl⟩ | ⟨k2, k3⟩⟩ <;> first | exact ⟨rfl, rfl⟩ | exact absurd h1 k1 | exact absurd k1 h1 | exact absurd h2 k2 | exact absurd k2 h2 | exact h3.uniq k3 fun _ => rfl
theorem AddD.uniq {L : List Ar} {a : Ar} {er er' : Int} {M M' : List Ar} (h : AddD L a er M) (k : AddD L a er' M') : er = er' ∧ M = M' := two_ways h k
theorem CutD.uniq {L : List Ar} {f m er er' : Int} {M M' : List Ar} (h : CutD L f m er M) (k : CutD L f m er' M') : er = er' ∧ M = M' := two_ways h k
theorem SetD.uniq {L : List Ar} {f m : Int} {w : Bool} {er er' : Int} {M M' : List Ar} (h : SetD L f m w er M) (k : SetD L f m w er' M') : er = er' ∧ M = M' := two_ways h k
theorem two_okD {A B : Prop} {f : Int → Option Bool} {e1 e2 : Int} {M : List Ar} (n1 : e1 ≠ 0) (n2 : e2 ≠ 0) (h : ¬ A ∧ 0 = e1 ∧ M = [] ∨ A ∧ (¬ B ∧ 0 = e2 ∧ M = [] ∨ B ∧ AnsD f 0 M)) : A ∧ B ∧ AnsD f 0 M := by
  rcases h with ⟨_, h, _⟩ | ⟨h1, ⟨_, h, _⟩ | ⟨h2, h3⟩⟩
  · exact absurd h.symm n1
  · exact absurd h.symm n2
  · exact ⟨h1, h2, h3⟩
theorem two_bad {A B : Prop} {f : Int → Option Bool} {e1 e2 er : Int} {M : List Ar} (h : ¬ A ∧ er = e1 ∧ M = [] ∨ A ∧ (¬ B ∧ er = e2 ∧ M = [] ∨ B ∧ AnsD f er M)) (n : er ≠ 0) : M = [] := by
  rcases h with ⟨_, _, h⟩ | ⟨_, ⟨_, _, h⟩ | ⟨_, h3⟩⟩
  · exact h
  · exact h
  · rcases h3.er with e | ⟨_, e⟩
    · exact absurd e n
    · exact e
theorem two_len {A B : Prop} {f : Int → Option Bool} {e1 e2 er : Int} {M : List Ar} (h : ¬ A ∧ er = e1 ∧ M = [] ∨ A ∧ (¬ B ∧ er = e2 ∧ M = [] ∨ B ∧ AnsD f er M)) : M.length ≤ 8 := by
  by_cases n : er = 0
  · rcases h with ⟨_, _, h⟩ | ⟨_, ⟨_, _, h⟩ | ⟨_, h3⟩⟩
    · rw [h]; simp
    · rw [h]; simp
    · rw [n] at h3; exact h3.ok.1.few
  · rw [two_bad h n]; simp

theorem at_last {L : List Ar} {x : Ar} {p : Int} (h : ¬ HasD x p) : atD (L ++ [x]) p = atD L p := by
  rw [atD_app]
  split
  · rename_i e; rw [e, atD, if_neg h]; rfl
  · rfl
/-- A form that is made page by page, as far as page k. -/
structure PartD (f : Int → Option Bool) (k : Int) (l : List Ar) : Prop where
  up : UpD l
  lo : ∀ p, p < k → atD l p = f p
  hi : ∀ p, k ≤ p → atD l p = none
theorem PartD.zero {f : Int → Option Bool} (hf : ∀ p, p < 0 → f p = none) : PartD f 0 [] := ⟨UpD.nil, fun p hp => by rw [hf p hp]; rfl, fun _ _ => rfl⟩
theorem PartD.skip {f : Int → Option Bool} {k : Int} {l : List Ar} (h : PartD f k l) (hk : f k = none) : PartD f (k + 1) l := ⟨h.up, fun p hp => by
    by_cases e : p = k
    · rw [e, hk]; exact h.hi k (by omega)
    · exact h.lo p (by omega), fun p hp => h.hi p (by omega)⟩
theorem PartD.end_le {f : Int → Option Bool} {k : Int} {l : List Ar} (h : PartD f k l) {y : Ar} (hy : y ∈ l) : y.1 + y.2.1 ≤ k := by
  have hf := h.up.fit y hy
  unfold FitD at hf
  apply Int.not_lt.1
  intro hlt
  have := atD_some h.up hy (p := y.1 + y.2.1 - 1) ⟨by omega, by omega⟩
  rw [h.hi _ (by omega)] at this
  cases this
theorem PartD.new {f : Int → Option Bool} {k : Int} {l : List Ar} {w : Bool} (h : PartD f k l) (h0 : 0 ≤ k ∧ k < 1024) (hk : f k = some w) (hl : ∀ y, l.getLast? = some y → FolD y (k, 1, w)) : PartD f (k + 1) (l ++ [(k, 1, w)]) := by
  have up : UpD (l ++ [(k, 1, w)]) := upD_snoc h.up ⟨h0.1, Int.le_refl _, by show (1 : Int) ≤ 1024 - k; omega⟩ hl
  refine ⟨up, fun p hp => ?_, fun p hp => ?_⟩
  · by_cases e : p = k
    · rw [e, hk]; exact atD_some up (x := (k, 1, w)) (by simp) ⟨Int.le_refl _, by show k < k + 1; omega⟩
    · rw [at_last (by unfold HasD; show ¬ (k ≤ p ∧ p < k + 1); omega)]
      exact h.lo p (by omega)
  · rw [at_last (by unfold HasD; show ¬ (k ≤ p ∧ p < k + 1); omega)]
    exact h.hi p (by omega)
theorem PartD.more {f : Int → Option Bool} {k : Int} {l : List Ar} {y : Ar} {w : Bool} (h : PartD f k (l ++ [y])) (h0 : 0 ≤ k ∧ k < 1024) (hk : f k = some w) (hl : ¬ FolD y (k, 1, w)) : PartD f (k + 1) (l ++ [(y.1, y.2.1 + 1, y.2.2)]) := by
  have he := h.end_le (y := y) (by simp)
  have hf := h.up.fit y (by simp)
  have hek : y.1 + y.2.1 = k ∧ w = y.2.2 := by
    unfold FolD at hl
    refine ⟨?_, ?_⟩
    · apply Int.le_antisymm he
      apply Int.not_lt.1
      intro hlt
      exact hl (Or.inl hlt)
    · by_cases e : w = y.2.2
      · exact e
      · exfalso
        apply hl
        by_cases hlt : y.1 + y.2.1 < k
        · exact Or.inl hlt
        · exact Or.inr ⟨by show y.1 + y.2.1 = k; omega, e⟩
  obtain ⟨ek, rfl⟩ := hek
  unfold FitD at hf
  obtain ⟨u1, -, u3⟩ := upD_app.1 h.up
  have up : UpD (l ++ [(y.1, y.2.1 + 1, y.2.2)]) := upD_app.2 ⟨u1, UpD.sing ⟨hf.1, by show (1 : Int) ≤ y.2.1 + 1; omega, by show y.2.1 + 1 ≤ 1024 - y.1; omega⟩, fun x hx z hz => by
    rw [List.mem_singleton.1 hz]
    exact u3 x hx y (by simp)⟩
  refine ⟨up, fun p hp => ?_, fun p hp => ?_⟩
  · by_cases e : p = k
    · rw [e, hk]; exact atD_some up (x := (y.1, y.2.1 + 1, y.2.2)) (by simp) ⟨by show y.1 ≤ k; omega, by show k < y.1 + (y.2.1 + 1); omega⟩
    · rw [← h.lo p (by omega), atD_app, atD_app, atD, atD]
      have : HasD (y.1, y.2.1 + 1, y.2.2) p ↔ HasD y p := by unfold HasD; show (y.1 ≤ p ∧ p < y.1 + (y.2.1 + 1)) ↔ (y.1 ≤ p ∧ p < y.1 + y.2.1); omega
      simp only [this, atD]
  · have := h.hi p (by omega)
    rw [at_last (by unfold HasD; show ¬ (y.1 ≤ p ∧ p < y.1 + (y.2.1 + 1)); omega)]
    rwa [at_last (by unfold HasD; omega)] at this
theorem PartD.ends {f : Int → Option Bool} {l : List Ar} (h : PartD f 1024 l) (hf : ∀ p, 1024 ≤ p → f p = none) : UpD l ∧ ∀ p, atD l p = f p := ⟨h.up, fun p => by
    by_cases e : p < 1024
    · exact h.lo p e
    · rw [h.hi p (by omega), hf p (by omega)]⟩

/-- Areas with one more, one by one: what is kept, and the one that grows. -/
def stepW (s : List Ar × Ar) (x : Ar) : List Ar × Ar :=
  if x.2.2 = s.2.2.2 ∧ x.1 + x.2.1 = s.2.1 then (s.1, (x.1, x.2.1 + s.2.2.1, s.2.2.2)) else if x.2.2 = s.2.2.2 ∧ s.2.1 + s.2.2.1 = x.1 then (s.1, (s.2.1, s.2.2.1 + x.2.1, s.2.2.2)) else (s.1 ++ [x], s.2)
structure WInv (l : List Ar) (a : Ar) (suf out : List Ar) (b : Ar) : Prop where
  up : UpD (out ++ suf)
  fit : FitD b.1 b.2.1
  wr : b.2.2 = a.2.2
  dis : ∀ z ∈ out ++ suf, z.1 + z.2.1 ≤ b.1 ∨ b.1 + b.2.1 ≤ z.1
  apart : ∀ z ∈ out, z.2.2 = b.2.2 → z.1 + z.2.1 ≠ b.1 ∧ b.1 + b.2.1 ≠ z.1
  at_ : ∀ p, withD b (atD (out ++ suf)) p = withD a (atD l) p
theorem at_mid {A B : List Ar} {x : Ar} (h : UpD (A ++ x :: B)) (p : Int) : atD (A ++ x :: B) p = if HasD x p then some x.2.2 else atD (A ++ B) p := by
  split
  · rename_i hp; exact atD_some h (by simp) hp
  · rename_i hp; rw [atD_app, atD_app, atD, if_neg hp]
theorem WInv.step {l : List Ar} {a x : Ar} {suf out : List Ar} {b : Ar} (h : WInv l a (x :: suf) out b) : WInv l a suf (stepW (out, b) x).1 (stepW (out, b) x).2 := by
  have hx := h.up.fit x (by simp)
  have hb := h.fit
  have hd := h.dis x (by simp)
  obtain ⟨u1, u2, u3⟩ := upD_app.1 h.up
  have sub : UpD (out ++ suf) := h.up.sub ((List.sublist_cons_self x suf).append_left out)
  unfold FitD at hx hb
  unfold stepW
  split
  · rename_i e
    obtain ⟨e1, e2⟩ := e
    simp only at e1 e2
    refine ⟨sub, ⟨hx.1, by show 1 ≤ x.2.1 + b.2.1; omega, by show x.2.1 + b.2.1 ≤ 1024 - x.1; omega⟩, h.wr, fun z hz => ?_, fun z hz hw => ?_, fun p => ?_⟩
    · rcases List.mem_append.1 hz with hz | hz
      · have g := fol_le (u3 z hz x (by simp))
        exact Or.inl g
      · have g := fol_le (u2.head.2 z hz)
        have hf := u2.fit z (by simp [hz])
        unfold FitD at hf
        have := h.dis z (by simp [hz])
        right
        show x.1 + (x.2.1 + b.2.1) ≤ z.1
        omega
    · have g := u3 z hz x (by simp)
      have hf := u1.fit z hz
      unfold FitD at hf
      refine ⟨?_, ?_⟩
      · intro ez
        rcases g with g | ⟨-, g⟩
        · simp only at ez; omega
        · exact g (e1.trans hw.symm)
      · have := fol_le g
        show x.1 + (x.2.1 + b.2.1) ≠ z.1
        omega
    · rw [← h.at_ p]
      unfold withD
      rw [at_mid h.up]
      have : HasD (x.1, x.2.1 + b.2.1, b.2.2) p ↔ HasD b p ∨ HasD x p := by unfold HasD; show (x.1 ≤ p ∧ p < x.1 + (x.2.1 + b.2.1)) ↔ _; omega
      simp only [this]
      by_cases hp : HasD b p
      · simp [hp]
      · by_cases hq : HasD x p <;> simp [hp, hq, e1]
  · rename_i n1
    split
    · rename_i e
      obtain ⟨e1, e2⟩ := e
      simp only at e1 e2
      refine ⟨sub, ⟨hb.1, by show 1 ≤ b.2.1 + x.2.1; omega, by show b.2.1 + x.2.1 ≤ 1024 - b.1; omega⟩, h.wr, fun z hz => ?_, fun z hz hw => ?_, fun p => ?_⟩
      · rcases List.mem_append.1 hz with hz | hz
        · have g := fol_le (u3 z hz x (by simp))
          have hf := u1.fit z hz
          unfold FitD at hf
          have := h.dis z (by simp [hz])
          left
          show z.1 + z.2.1 ≤ b.1
          omega
        · have g := fol_le (u2.head.2 z hz)
          right
          show b.1 + (b.2.1 + x.2.1) ≤ z.1
          omega
      · have g := fol_le (u3 z hz x (by simp))
        have hf := u1.fit z hz
        unfold FitD at hf
        refine ⟨(h.apart z hz hw).1, ?_⟩
        show b.1 + (b.2.1 + x.2.1) ≠ z.1
        omega
      · rw [← h.at_ p]
        unfold withD
        rw [at_mid h.up]
        have : HasD (b.1, b.2.1 + x.2.1, b.2.2) p ↔ HasD b p ∨ HasD x p := by unfold HasD; show (b.1 ≤ p ∧ p < b.1 + (b.2.1 + x.2.1)) ↔ _; omega
        simp only [this]
        by_cases hp : HasD b p
        · simp [hp]
        · by_cases hq : HasD x p <;> simp [hp, hq, e1]
    · rename_i n2
      have e : (out ++ [x]) ++ suf = out ++ x :: suf := by simp
      refine ⟨by rw [e]; exact h.up, h.fit, h.wr, by rw [e]; exact h.dis, fun z hz hw => ?_, by rw [e]; exact h.at_⟩
      rcases List.mem_append.1 hz with hz | hz
      · exact h.apart z hz hw
      · rw [List.mem_singleton.1 hz] at hw ⊢
        exact ⟨fun e => n1 ⟨hw, e⟩, fun e => n2 ⟨hw, e⟩⟩
theorem WInv.first {l : List Ar} {a : Ar} (hl : UpD l) (ha : FitD a.1 a.2.1) (hn : ∀ p, HasD a p → atD l p = none) : WInv l a l [] a := by
  refine ⟨hl, ha, rfl, fun z hz => ?_, fun z hz => by simp at hz, fun _ => rfl⟩
  have hz' : z ∈ l := by simpa using hz
  have hf := hl.fit z hz'
  unfold FitD at hf ha
  by_cases hm : z.1 + z.2.1 ≤ a.1 ∨ a.1 + a.2.1 ≤ z.1
  · exact hm
  · exfalso
    by_cases hle : z.1 ≤ a.1
    · have := hn a.1 ⟨by omega, by omega⟩
      rw [atD_some hl hz' ⟨by omega, by omega⟩] at this
      cases this
    · have := hn z.1 ⟨by omega, by omega⟩
      rw [atD_some hl hz' ⟨by omega, by omega⟩] at this
      cases this
/-- The one that grew is put among those that were kept. -/
theorem WInv.ends {l : List Ar} {a : Ar} {o1 o2 : List Ar} {b : Ar} (h : WInv l a [] (o1 ++ o2) b) (h1 : ∀ z ∈ o1, z.1 < b.1) (h2 : ∀ z, o2.head? = some z → b.1 ≤ z.1) : UpD (o1 ++ b :: o2) ∧ ∀ p, atD (o1 ++ b :: o2) p = withD a (atD l) p := by
  have hu := h.up
  have hd := h.dis
  rw [List.append_nil] at hu hd
  obtain ⟨u1, u2, u3⟩ := upD_app.1 hu
  have hb := h.fit
  unfold FitD at hb
  have f1 : ∀ z ∈ o1, FolD z b := fun z hz => by
    have g := h1 z hz
    have := hd z (by simp [hz])
    have ha := h.apart z (by simp [hz])
    have hle : z.1 + z.2.1 ≤ b.1 := by omega
    by_cases e : z.1 + z.2.1 = b.1
    · exact Or.inr ⟨e, fun ew => (ha ew.symm).1 e⟩
    · exact Or.inl (by omega)
  have l2 : ∀ z ∈ o2, b.1 ≤ z.1 := fun z hz => by
    cases o2 with
    | nil => simp at hz
    | cons y r =>
      have hy := h2 y rfl
      rcases List.mem_cons.1 hz with rfl | hz
      · exact hy
      · have := fol_le (u2.head.2 z hz)
        have hf := u2.head.1
        unfold FitD at hf
        omega
  have f2 : ∀ z ∈ o2, FolD b z := fun z hz => by
    have g := l2 z hz
    have hf := u2.fit z hz
    unfold FitD at hf
    have := hd z (by simp [hz])
    have ha := h.apart z (by simp [hz])
    by_cases e : b.1 + b.2.1 = z.1
    · exact Or.inr ⟨e, fun ew => (ha ew).2 e⟩
    · exact Or.inl (by omega)
  have up : UpD (o1 ++ b :: o2) := upD_app.2 ⟨u1, ⟨fun z hz => (List.mem_cons.1 hz).elim (fun e => e ▸ h.fit) (u2.fit z), List.pairwise_cons.2 ⟨f2, u2.ord⟩⟩, fun x hx y hy => (List.mem_cons.1 hy).elim (fun e => e ▸ f1 x hx) (u3 x hx y)⟩
  refine ⟨up, fun p => ?_⟩
  have := h.at_ p
  rw [List.append_nil] at this
  rw [← this, at_mid up]
  rfl

/-- What of an area is ahead of some pages, and behind them. -/
def outD (f m : Int) (x : Ar) : List Ar := (if x.1 < f then [(x.1, min (x.1 + x.2.1) f - x.1, x.2.2)] else []) ++ (if f + m < x.1 + x.2.1 then [(max x.1 (f + m), x.1 + x.2.1 - max x.1 (f + m), x.2.2)] else [])
def lessL (f m : Int) : List Ar → List Ar
  | [] => []
  | x :: r => outD f m x ++ lessL f m r
theorem mem_out {f m : Int} {x y : Ar} (h : y ∈ outD f m x) : (x.1 < f ∧ y = (x.1, min (x.1 + x.2.1) f - x.1, x.2.2)) ∨ (f + m < x.1 + x.2.1 ∧ y = (max x.1 (f + m), x.1 + x.2.1 - max x.1 (f + m), x.2.2)) := by
  unfold outD at h
  rcases List.mem_append.1 h with h | h
  · split at h
    · rename_i hc; exact Or.inl ⟨hc, List.mem_singleton.1 h⟩
    · simp at h
  · split at h
    · rename_i hc; exact Or.inr ⟨hc, List.mem_singleton.1 h⟩
    · simp at h
theorem out_fit {f m : Int} {x y : Ar} (hx : FitD x.1 x.2.1) (hm : FitD f m) (h : y ∈ outD f m x) : FitD y.1 y.2.1 ∧ x.1 ≤ y.1 ∧ y.1 + y.2.1 ≤ x.1 + x.2.1 ∧ y.2.2 = x.2.2 := by
  unfold FitD at hx hm ⊢
  rcases mem_out h with ⟨hc, rfl⟩ | ⟨hc, rfl⟩ <;> refine ⟨?_, ?_, ?_, rfl⟩ <;> simp only <;> omega
theorem out_up {f m : Int} {x : Ar} (hx : FitD x.1 x.2.1) (hm : FitD f m) : UpD (outD f m x) := by
  refine ⟨fun y hy => (out_fit hx hm hy).1, ?_⟩
  unfold outD
  unfold FitD at hx hm
  split <;> split <;> simp [FolD]
  omega
theorem mem_less {f m : Int} {y : Ar} : ∀ {L : List Ar}, y ∈ lessL f m L → ∃ x ∈ L, y ∈ outD f m x
  | x :: r, h => by
    rcases List.mem_append.1 h with h | h
    · exact ⟨x, by simp, h⟩
    · obtain ⟨z, h1, h2⟩ := mem_less h
      exact ⟨z, List.mem_cons_of_mem _ h1, h2⟩
theorem fol_sub {x y x' y' : Ar} (h : FolD x y) (h1 : x'.1 + x'.2.1 ≤ x.1 + x.2.1) (h2 : y.1 ≤ y'.1) (h3 : x'.2.2 = x.2.2) (h4 : y'.2.2 = y.2.2) : FolD x' y' := by
  unfold FolD at h ⊢
  rw [h3, h4]
  by_cases e : x'.1 + x'.2.1 = y'.1
  · right
    refine ⟨e, ?_⟩
    rcases h with h | h
    · omega
    · exact h.2
  · left
    omega
theorem less_up {f m : Int} (hm : FitD f m) : ∀ {L : List Ar}, UpD L → UpD (lessL f m L)
  | [], _ => UpD.nil
  | x :: r, h => by
    refine upD_app.2 ⟨out_up h.head.1 hm, less_up hm h.tail, fun y hy z hz => ?_⟩
    obtain ⟨x', h1, h2⟩ := mem_less hz
    obtain ⟨-, a2, a3, a4⟩ := out_fit h.head.1 hm hy
    obtain ⟨-, b2, b3, b4⟩ := out_fit (h.tail.fit x' h1) hm h2
    exact fol_sub (h.head.2 x' h1) a3 b2 a4 b4
theorem out_at {f m : Int} {x : Ar} (hx : FitD x.1 x.2.1) (hm : FitD f m) (p : Int) : atD (outD f m x) p = if HasD x p ∧ ¬ (f ≤ p ∧ p < f + m) then some x.2.2 else none := by
  split
  · rename_i h
    obtain ⟨h1, h2⟩ := h
    unfold HasD at h1
    by_cases hp : p < f
    · have hmem : (x.1, min (x.1 + x.2.1) f - x.1, x.2.2) ∈ outD f m x := by
        unfold outD
        rw [if_pos (by omega)]
        simp
      exact atD_some (x := (x.1, min (x.1 + x.2.1) f - x.1, x.2.2)) (out_up hx hm) hmem ⟨h1.1, by show p < x.1 + (min (x.1 + x.2.1) f - x.1); omega⟩
    · have hmem : (max x.1 (f + m), x.1 + x.2.1 - max x.1 (f + m), x.2.2) ∈ outD f m x := by
        unfold outD
        rw [if_pos (c := f + m < x.1 + x.2.1) (by omega)]
        simp
      exact atD_some (x := (max x.1 (f + m), x.1 + x.2.1 - max x.1 (f + m), x.2.2)) (out_up hx hm) hmem ⟨by show max x.1 (f + m) ≤ p; omega, by show p < max x.1 (f + m) + (x.1 + x.2.1 - max x.1 (f + m)); omega⟩
  · rename_i h
    refine atD_none fun y hy hp => h ?_
    unfold FitD at hx hm
    unfold HasD at hp ⊢
    rcases mem_out hy with ⟨hc, rfl⟩ | ⟨hc, rfl⟩ <;> simp only at hp <;> omega
theorem less_at {f m : Int} (hm : FitD f m) : ∀ {L : List Ar}, UpD L → ∀ p, atD (lessL f m L) p = lessD f m (atD L) p
  | [], _, p => by unfold lessD lessL; simp [atD]
  | x :: r, h, p => by
    rw [lessL, atD_app, out_at h.head.1 hm, less_at hm h.tail]
    unfold lessD
    rw [atD]
    by_cases hp : f ≤ p ∧ p < f + m
    · simp [hp]
    · by_cases hq : HasD x p <;> simp [hp, hq]
theorem out_len (f m : Int) (x : Ar) : (outD f m x).length ≤ 2 := by
  unfold outD
  split <;> split <;> simp
theorem less_len (f m : Int) : ∀ L : List Ar, (lessL f m L).length ≤ 2 * L.length
  | [] => by simp [lessL]
  | x :: r => by
    have := less_len f m r
    have := out_len f m x
    simp [lessL]
    omega
theorem less_snoc (f m : Int) (L : List Ar) (x : Ar) : lessL f m (L ++ [x]) = lessL f m L ++ outD f m x := by
  induction L with
  | nil => simp [lessL]
  | cons y r ih => simp [lessL, ih]
theorem has_eq (f m : Int) (w : Bool) (p : Int) : HasD (f, m, w) p ↔ f ≤ p ∧ p < f + m := Iff.rfl
theorem with_less (f m : Int) (w : Bool) (g : Int → Option Bool) (p : Int) : withD (f, m, w) (lessD f m g) p = withD (f, m, w) g p := by
  unfold withD lessD
  simp only [has_eq]
  split
  · rfl
  · rfl
/-- Two areas have a page together. -/
def MeetD (x a : Ar) : Prop := x.1 < a.1 + a.2.1 ∧ a.1 < x.1 + x.2.1
instance (x a : Ar) : Decidable (MeetD x a) := by unfold MeetD; infer_instance
theorem meet_none {L : List Ar} {a : Ar} (h : ∀ x ∈ L, ¬ MeetD x a) (p : Int) (hp : HasD a p) : atD L p = none := atD_none fun x hx hh => h x hx (by unfold HasD at hp hh; unfold MeetD; omega)
theorem meet_some {L : List Ar} {a x : Ar} (hL : UpD L) (ha : FitD a.1 a.2.1) (hx : x ∈ L) (h : MeetD x a) : ¬ ∀ p, HasD a p → atD L p = none := fun hn => by
  have hf := hL.fit x hx
  unfold FitD at hf ha
  unfold MeetD at h
  have := hn (max x.1 a.1) ⟨by omega, by omega⟩
  rw [atD_some hL hx ⟨by omega, by omega⟩] at this
  cases this
end Go.Proofs.Ytmfpoagimedhnaa
