/- Texts of mine, joined: N21 N22 N23 N24 N25 N26 N27. What each says and under which conditions stands at its head, below. -/
import Derived.Test.YtfpcoomkbmfchaaGreatDoorGN
import Derived.Test.YtfpcoomkbmfchaaGreatDoorGNL
/- Spaces as functions of pages, tables as words: what always holds of both. Nothing of a program. -/
namespace Go.Proofs.YtfpcoomkbmfchaaGreatDoor
open Go.RowKit
set_option maxRecDepth 100000

theorem decode_wordOf {p x c : Bool} {g : Int} (h : okE p x c g = true) : decode (wordOf p x c g) = some (p, x, c, g) := by
  obtain ⟨h0, h1, _⟩ := okE_low h
  have e1 : wordOf p x c g % 2 = bit p := by unfold wordOf; have := bit_lo p; have := bit_hi p; omega
  have e2 : wordOf p x c g / 2 % 2 = bit x := by unfold wordOf; have := bit_lo p; have := bit_hi p; have := bit_lo x; have := bit_hi x; omega
  have e3 : wordOf p x c g / 4 % 2 = bit c := by unfold wordOf; have := bit_lo p; have := bit_hi p; have := bit_lo x; have := bit_hi x; have := bit_lo c; have := bit_hi c; omega
  have e4 : wordOf p x c g / 256 % 1024 = g := by unfold wordOf; have := bit_lo p; have := bit_hi p; have := bit_lo x; have := bit_hi x; have := bit_lo c; have := bit_hi c; omega
  have b : ∀ b : Bool, decide (bit b = 1) = b := by intro b; cases b <;> rfl
  unfold decode
  simp only [e1, e2, e3, e4, b, h, true_and, if_true]
theorem entAt_nat {n : Nat} {L : List Int} {f q : Nat} (hf : f < n) (hq : q < 32) : entAt n L (f : Int) (q : Int) = (match decode (L.getD (f * 32 + q) 0) with | some e => if e.2.2.2 < (n : Int) then some e else none | none => none) := by
  unfold entAt
  rw [if_pos ⟨by omega, by omega, by omega, by omega⟩]
  rfl
theorem putT_length (L : List Int) (f q : Nat) (e : Ent) : (putT L f q e).length = L.length := by simp [putT]
theorem entAt_put_same {n : Nat} {L : List Int} {f q : Nat} {e : Ent} (hl : L.length = n * 32) (hf : f < n) (hq : q < 32) (hok : okE e.1 e.2.1 e.2.2.1 e.2.2.2 = true) (hg : e.2.2.2 < n) : entAt n (putT L f q e) (f : Int) (q : Int) = some e := by
  rw [entAt_nat hf hq, putT, getD_setI _ _ _ _ (by rw [hl]; omega), if_pos rfl, decode_wordOf hok]
  simp only [hg, if_true]
theorem entAt_put_other {n : Nat} {L : List Int} {f q f' q' : Nat} {e : Ent} (hl : L.length = n * 32) (hf : f < n) (hq : q < 32) (hf' : f' < n) (hq' : q' < 32) (hne : f' ≠ f ∨ q' ≠ q) : entAt n (putT L f q e) (f' : Int) (q' : Int) = entAt n L (f' : Int) (q' : Int) := by
  rw [entAt_nat hf' hq', entAt_nat hf' hq', putT, getD_setI _ _ _ _ (by rw [hl]; omega), if_neg (by omega)]
theorem getD_row (L : List Int) (f i : Nat) (hf : f * 32 + 32 ≤ L.length) : (putRow L f zeros).getD i 0 = if f * 32 ≤ i ∧ i < f * 32 + 32 then 0 else L.getD i 0 := by
  have hl : (L.take (f * 32)).length = f * 32 := by rw [List.length_take]; omega
  simp only [putRow, zeros, List.getD_eq_getElem?_getD]
  by_cases h1 : i < f * 32
  · rw [List.append_assoc, List.getElem?_append_left (by rw [hl]; exact h1), List.getElem?_take, if_pos h1, if_neg (by omega)]
  · by_cases h2 : i < f * 32 + 32
    · rw [List.append_assoc, List.getElem?_append_right (by rw [hl]; omega), hl, List.getElem?_append_left (by simp; omega), if_pos ⟨by omega, h2⟩, List.getElem?_replicate, if_pos (by omega)]; rfl
    · rw [List.append_assoc, List.getElem?_append_right (by rw [hl]; omega), hl, List.getElem?_append_right (by simp; omega), if_neg (by omega), List.getElem?_drop, List.length_replicate, show f * 32 + 32 + (i - f * 32 - 32) = i by omega]
theorem entAt_row_same {n : Nat} {L : List Int} {f q : Nat} (hl : L.length = n * 32) (hf : f < n) (hq : q < 32) : entAt n (putRow L f zeros) (f : Int) (q : Int) = some z0 := by
  rw [entAt_nat hf hq, getD_row _ _ _ (by rw [hl]; omega), if_pos ⟨by omega, by omega⟩, decode_zero]
  have : z0.2.2.2 < (n : Int) := by simp [z0]; omega
  simp only [this, if_true]
theorem entAt_row_other {n : Nat} {L : List Int} {f f' q' : Nat} (hl : L.length = n * 32) (hf : f < n) (hf' : f' < n) (hq' : q' < 32) (hne : f' ≠ f) : entAt n (putRow L f zeros) (f' : Int) (q' : Int) = entAt n L (f' : Int) (q' : Int) := by
  rw [entAt_nat hf' hq', entAt_nat hf' hq', getD_row _ _ _ (by rw [hl]; omega), if_neg (by omega)]

/-- A space: of each page its entry; zero, where none is mapped. -/
abbrev Sp := Nat → Ent
def fitsE (n : Nat) (e : Ent) : Prop := e.1 = true ∧ e.2.2.2 < (n : Int) ∧ okE e.1 e.2.1 e.2.2.1 e.2.2.2 = true
def hasB (F : Sp) (i : Nat) : Bool := (List.range 32).any fun j => (F (32 * i + j)).1
theorem hasB_iff (F : Sp) (i : Nat) : hasB F i = true ↔ ∃ j, j < 32 ∧ (F (32 * i + j)).1 = true := by simp [hasB]
def updF (F : Sp) (p : Nat) (e : Ent) : Sp := fun q => if q = p then e else F q
theorem updF_same (F : Sp) (p : Nat) (e : Ent) : updF F p e p = e := by simp [updF]
theorem updF_other (F : Sp) (p : Nat) (e : Ent) (q : Nat) (h : q ≠ p) : updF F p e q = F q := by simp [updF, h]
def updW {α : Type} (W : Nat → Option α) (r : Nat) (v : Option α) : Nat → Option α := fun x => if x = r then v else W x
theorem updW_same {α : Type} (W : Nat → Option α) (r : Nat) (v : Option α) : updW W r v r = v := by simp [updW]
theorem updW_other {α : Type} (W : Nat → Option α) (r : Nat) (v : Option α) (x : Nat) (h : x ≠ r) : updW W r v x = W x := by simp [updW, h]
theorem hasB_far (F : Sp) (p : Nat) (e : Ent) (i : Nat) (h : i ≠ p / 32) : hasB (updF F p e) i = hasB F i := by
  have : ∀ j, j < 32 → updF F p e (32 * i + j) = F (32 * i + j) := fun j hj => updF_other _ _ _ _ (by omega)
  rw [Bool.eq_iff_iff, hasB_iff, hasB_iff]
  exact ⟨fun ⟨j, h1, h2⟩ => ⟨j, h1, by rw [← this j h1]; exact h2⟩, fun ⟨j, h1, h2⟩ => ⟨j, h1, by rw [this j h1]; exact h2⟩⟩
theorem hasB_put (F : Sp) (p : Nat) (e : Ent) (h : e.1 = true) : hasB (updF F p e) (p / 32) = true :=
  (hasB_iff _ _).2 ⟨p % 32, by omega, by rw [show 32 * (p / 32) + p % 32 = p by omega, updF_same]; exact h⟩
theorem hasB_of {F : Sp} {p : Nat} (h : (F p).1 = true) : hasB F (p / 32) = true :=
  (hasB_iff _ _).2 ⟨p % 32, by omega, by rw [show 32 * (p / 32) + p % 32 = p by omega]; exact h⟩

/-- Whose a frame is: a space's root, or a space's table. -/
abbrev Own := Nat → Option (Nat × Option Nat)
structure Inv (n m : Nat) (L : List Int) (R : Nat → Nat) (S : Nat → Bool) (W : Nat → Option Sp) (O : Own) : Prop where
  len : L.length = n * 32
  nm : n = m + 2
  top : n ≤ 1024
  sp : ∀ r : Nat, S r = (W r).isSome
  root : ∀ (r : Nat) (F : Sp), W r = some F → r < m ∧ O r = some (r, none)
  yes : ∀ (r : Nat) (F : Sp) (i : Nat), W r = some F → i < 32 → hasB F i = true → ∃ g : Nat, g < m ∧ O g = some (r, some i) ∧ entAt n L (r : Int) (i : Int) = some (true, false, false, (g : Int)) ∧ ∀ j : Nat, j < 32 → entAt n L (g : Int) (j : Int) = some (F (32 * i + j))
  no : ∀ (r : Nat) (F : Sp) (i : Nat), W r = some F → i < 32 → hasB F i = false → entAt n L (r : Int) (i : Int) = some z0
  fit : ∀ (r : Nat) (F : Sp) (p : Nat), W r = some F → F p = z0 ∨ fitsE n (F p)
  held : ∀ f : Nat, R f = if (O f).isSome then 1 else 0
  low : ∀ f : Nat, (O f).isSome → f < m
theorem Inv.start (m : Nat) (h : m ≤ 1000) : Inv (m + 2) m (madeL m) R0 noS (fun _ => none) (fun _ => none) :=
  ⟨by simp [madeL], rfl, by omega, fun _ => rfl, fun _ _ h => (nomatch h), fun _ _ _ h => (nomatch h), fun _ _ _ h => (nomatch h), fun _ _ _ h => (nomatch h), fun _ => rfl, fun _ h => (nomatch h)⟩
/-- The entries on the way to a page. -/
theorem Inv.find {n m : Nat} {L : List Int} {R : Nat → Nat} {S : Nat → Bool} {W : Nat → Option Sp} {O : Own} (h : Inv n m L R S W O) {r : Nat} {F : Sp} (hr : W r = some F) (p : Nat) (hp : p < 1024) :
    (hasB F (p / 32) = true ∧ ∃ g : Nat, g < m ∧ O g = some (r, some (p / 32)) ∧ entAt n L (r : Int) ((p / 32 : Nat) : Int) = some (true, false, false, (g : Int)) ∧ findE n L (r : Int) (p : Int) = ((true, false, false, (g : Int)), F p)) ∨ (hasB F (p / 32) = false ∧ F p = z0 ∧ findE n L (r : Int) (p : Int) = (z0, z0)) := by
  have e1 : (p : Int) / 32 = ((p / 32 : Nat) : Int) := by omega
  have e2 : (p : Int) % 32 = ((p % 32 : Nat) : Int) := by omega
  cases hh : hasB F (p / 32) with
  | true =>
    obtain ⟨g, hg, ho, h1, h2⟩ := h.yes r F (p / 32) hr (by omega) hh
    refine Or.inl ⟨rfl, g, hg, ho, h1, ?_⟩
    have h3 := h2 (p % 32) (by omega)
    rw [show 32 * (p / 32) + p % 32 = p by omega] at h3
    unfold findE
    rw [e1, e2, getE_some h1, if_pos rfl]
    rw [getE_some h3]
  | false =>
    have h1 := h.no r F (p / 32) hr (by omega) hh
    refine Or.inr ⟨rfl, ?_, ?_⟩
    · rcases h.fit r F p hr with hz | hf
      · exact hz
      · have := hasB_of hf.1; rw [hh] at this; cases this
    · unfold findE
      rw [e1, getE_some h1, if_neg (by decide)]
theorem Inv.find2 {n m : Nat} {L : List Int} {R : Nat → Nat} {S : Nat → Bool} {W : Nat → Option Sp} {O : Own} (h : Inv n m L R S W O) {r : Nat} {F : Sp} (hr : W r = some F) (p : Nat) (hp : p < 1024) : (findE n L (r : Int) (p : Int)).2 = F p := by
  rcases h.find hr p hp with ⟨_, g, _, _, _, e⟩ | ⟨_, hz, e⟩
  · rw [e]
  · rw [e, hz]
end Go.Proofs.YtfpcoomkbmfchaaGreatDoor

/- What calls do to spaces, and to the tables' words: what always holds stays. Nothing of a program. -/
namespace Go.Proofs.YtfpcoomkbmfchaaGreatDoor
open Go.RowKit
set_option maxRecDepth 100000

theorem fits_z {n : Nat} {e : Ent} (hn : 0 < n) (h : e = z0 ∨ fitsE n e) : okE e.1 e.2.1 e.2.2.1 e.2.2.2 = true ∧ e.2.2.2 < n := by
  rcases h with rfl | h
  · exact ⟨by decide, by simp [z0]; omega⟩
  · exact ⟨h.2.2, h.2.1⟩
theorem Inv.free {n m : Nat} {L : List Int} {R : Nat → Nat} {S : Nat → Bool} {W : Nat → Option Sp} {O : Own} (h : Inv n m L R S W O) {x : Nat} (h0 : R x = 0) : O x = none := by
  have := h.held x
  rw [h0] at this
  cases ho : O x with
  | none => rfl
  | some v => rw [ho] at this; simp at this
theorem Inv.pos {n m : Nat} {L : List Int} {R : Nat → Nat} {S : Nat → Bool} {W : Nat → Option Sp} {O : Own} (h : Inv n m L R S W O) : 0 < n := by have := h.nm; omega
/-- A space more. -/
theorem Inv.open_ {n m : Nat} {L : List Int} {R : Nat → Nat} {S : Nat → Bool} {W : Nat → Option Sp} {O : Own} (h : Inv n m L R S W O) {x : Nat} (hx : x < m) (h0 : R x = 0) :
    Inv n m (putRow L x zeros) (upd R x 1) (updS S x true) (updW W x (some fun _ => z0)) (updW O x (some (x, none))) ∧ W x = none := by
  have ho := h.free h0
  have hn := h.nm
  have hw : W x = none := by
    cases hw : W x with
    | none => rfl
    | some F => have := (h.root x F hw).2; rw [ho] at this; cases this
  have hz : ∀ i, hasB (fun _ => z0) i = false := fun i => by
    cases hh : hasB (fun _ => z0) i with
    | false => rfl
    | true => obtain ⟨j, _, hj⟩ := (hasB_iff _ _).1 hh; cases hj
  refine ⟨⟨putRow_length h.len (by omega) (by decide), hn, h.top, fun r => ?_, fun r F hr => ?_, fun r F i hr hi hh => ?_, fun r F i hr hi hh => ?_, fun r F p hr => ?_, fun f => ?_, fun f hf => ?_⟩, hw⟩
  · unfold updS updW
    split
    · rfl
    · exact h.sp r
  · by_cases e : r = x
    · subst e; exact ⟨hx, updW_same _ _ _⟩
    · rw [updW_other _ _ _ _ e] at hr
      rw [updW_other _ _ _ _ e]
      exact h.root r F hr
  · by_cases e : r = x
    · subst e; rw [updW_same] at hr; cases hr; rw [hz] at hh; cases hh
    · rw [updW_other _ _ _ _ e] at hr
      obtain ⟨g, hg, hog, h1, h2⟩ := h.yes r F i hr hi hh
      have hgx : g ≠ x := by rintro rfl; rw [ho] at hog; cases hog
      have hrm := (h.root r F hr).1
      refine ⟨g, hg, by rw [updW_other _ _ _ _ hgx]; exact hog, by rw [entAt_row_other h.len (by omega) (by omega) hi e]; exact h1, fun j hj => by rw [entAt_row_other h.len (by omega) (by omega) hj hgx]; exact h2 j hj⟩
  · by_cases e : r = x
    · subst e; exact entAt_row_same h.len (by omega) hi
    · rw [updW_other _ _ _ _ e] at hr
      have hrm := (h.root r F hr).1
      rw [entAt_row_other h.len (by omega) (by omega) hi e]
      exact h.no r F i hr hi hh
  · by_cases e : r = x
    · subst e; rw [updW_same] at hr; cases hr; exact Or.inl rfl
    · rw [updW_other _ _ _ _ e] at hr
      exact h.fit r F p hr
  · by_cases e : f = x
    · subst e; rw [upd_same, updW_same]; rfl
    · rw [upd_other _ _ _ _ e, updW_other _ _ _ _ e]; exact h.held f
  · by_cases e : f = x
    · subst e; exact hx
    · rw [updW_other _ _ _ _ e] at hf; exact h.low f hf
/-- A page of a table that is there, and stays. -/
theorem Inv.page {n m : Nat} {L : List Int} {R : Nat → Nat} {S : Nat → Bool} {W : Nat → Option Sp} {O : Own} (h : Inv n m L R S W O) {r : Nat} {F : Sp} (hr : W r = some F) {p g : Nat} (hp : p < 1024) (hg : g < m) (hog : O g = some (r, some (p / 32))) (hent : entAt n L (r : Int) ((p / 32 : Nat) : Int) = some (true, false, false, (g : Int))) (hh : hasB F (p / 32) = true) {e : Ent} (he : e = z0 ∨ fitsE n e) (hh' : hasB (updF F p e) (p / 32) = true) :
    Inv n m (putT L g (p % 32) e) R S (updW W r (some (updF F p e))) O := by
  have hn := h.nm
  obtain ⟨ok, hlo⟩ := fits_z h.pos he
  obtain ⟨hrm, hor⟩ := h.root r F hr
  have hrg : r ≠ g := by rintro rfl; rw [hor] at hog; cases hog
  obtain ⟨g2, hg2, hog2, h1, h2⟩ := h.yes r F (p / 32) hr (by omega) hh
  have far : ∀ f q : Nat, f < m → q < 32 → f ≠ g → entAt n (putT L g (p % 32) e) (f : Int) (q : Int) = entAt n L (f : Int) (q : Int) := fun f q hf hq hne => entAt_put_other h.len (by omega) (by omega) (by omega) hq (Or.inl hne)
  refine ⟨by rw [putT_length]; exact h.len, hn, h.top, fun r' => ?_, fun r' F' hr' => ?_, fun r' F' i hr' hi hhi => ?_, fun r' F' i hr' hi hhi => ?_, fun r' F' p' hr' => ?_, h.held, h.low⟩
  · rw [h.sp r']
    by_cases e' : r' = r
    · subst e'; rw [updW_same, hr]; rfl
    · rw [updW_other _ _ _ _ e']
  · by_cases e' : r' = r
    · subst e'; exact ⟨hrm, hor⟩
    · rw [updW_other _ _ _ _ e'] at hr'; exact h.root r' F' hr'
  · by_cases e' : r' = r
    · subst e'
      rw [updW_same] at hr'
      cases hr'
      by_cases ei : i = p / 32
      · subst ei
        obtain rfl : g2 = g := by rw [hent] at h1; simp at h1; omega
        refine ⟨g2, hg2, hog2, by rw [far _ _ hrm hi hrg]; exact h1, fun j hj => ?_⟩
        by_cases ej : j = p % 32
        · rw [ej, entAt_put_same h.len (by omega) (by omega) ok hlo, show 32 * (p / 32) + p % 32 = p by omega, updF_same]
        · rw [entAt_put_other h.len (by omega) (by omega) (by omega) hj (Or.inr ej), updF_other _ _ _ _ (by omega)]
          exact h2 j hj
      · rw [hasB_far _ _ _ _ ei] at hhi
        obtain ⟨g', hg', hog', k1, k2⟩ := h.yes r' F i hr hi hhi
        have hgg : g' ≠ g := by rintro rfl; rw [hog] at hog'; cases hog'; exact ei rfl
        exact ⟨g', hg', hog', by rw [far _ _ hrm hi hrg]; exact k1, fun j hj => by rw [far _ _ hg' hj hgg, updF_other _ _ _ _ (by omega)]; exact k2 j hj⟩
    · rw [updW_other _ _ _ _ e'] at hr'
      obtain ⟨g', hg', hog', k1, k2⟩ := h.yes r' F' i hr' hi hhi
      have hgg : g' ≠ g := by rintro rfl; rw [hog] at hog'; cases hog'; exact e' rfl
      obtain ⟨hrm', hor'⟩ := h.root r' F' hr'
      have hrg' : r' ≠ g := by rintro rfl; rw [hor'] at hog; cases hog
      exact ⟨g', hg', hog', by rw [far _ _ hrm' hi hrg']; exact k1, fun j hj => by rw [far _ _ hg' hj hgg]; exact k2 j hj⟩
  · by_cases e' : r' = r
    · subst e'
      rw [updW_same] at hr'
      cases hr'
      by_cases ei : i = p / 32
      · subst ei; rw [hh'] at hhi; cases hhi
      · rw [hasB_far _ _ _ _ ei] at hhi
        rw [far _ _ hrm hi hrg]
        exact h.no r' F i hr hi hhi
    · rw [updW_other _ _ _ _ e'] at hr'
      obtain ⟨hrm', hor'⟩ := h.root r' F' hr'
      have hrg' : r' ≠ g := by rintro rfl; rw [hor'] at hog; cases hog
      rw [far _ _ hrm' hi hrg']
      exact h.no r' F' i hr' hi hhi
  · by_cases e' : r' = r
    · subst e'
      rw [updW_same] at hr'
      cases hr'
      by_cases ep : p' = p
      · subst ep; rw [updF_same]; exact he
      · rw [updF_other _ _ _ _ ep]; exact h.fit r' F p' hr
    · rw [updW_other _ _ _ _ e'] at hr'; exact h.fit r' F' p' hr'
end Go.Proofs.YtfpcoomkbmfchaaGreatDoor

/- What calls do to spaces: a table more, a table less, a space less. Nothing of a program. -/
namespace Go.Proofs.YtfpcoomkbmfchaaGreatDoor
open Go.RowKit
set_option maxRecDepth 100000

/-- A page of a table that is made for it. -/
theorem Inv.fresh {n m : Nat} {L : List Int} {R : Nat → Nat} {S : Nat → Bool} {W : Nat → Option Sp} {O : Own} (h : Inv n m L R S W O) {r : Nat} {F : Sp} (hr : W r = some F) {p x : Nat} (hp : p < 1024) (hx : x < m) (h0 : R x = 0) (hh : hasB F (p / 32) = false) {e : Ent} (he : fitsE n e) :
    Inv n m (putT (putT (putRow L x zeros) r (p / 32) (true, false, false, (x : Int))) x (p % 32) e) (upd R x 1) S (updW W r (some (updF F p e))) (updW O x (some (r, some (p / 32)))) := by
  have hn := h.nm
  have ho := h.free h0
  obtain ⟨ok, hlo⟩ := fits_z h.pos (Or.inr he)
  obtain ⟨hrm, hor⟩ := h.root r F hr
  have hrx : r ≠ x := by rintro rfl; rw [hor] at ho; cases ho
  have l1 : (putRow L x zeros).length = n * 32 := putRow_length h.len (by omega) (by decide)
  have l2 : (putT (putRow L x zeros) r (p / 32) (true, false, false, (x : Int))).length = n * 32 := by rw [putT_length]; exact l1
  have okt : okE true false false (x : Int) = true := by have := h.top; simp [okE]; omega
  have far : ∀ f q : Nat, f < m → q < 32 → f ≠ x → (f ≠ r ∨ q ≠ p / 32) → entAt n (putT (putT (putRow L x zeros) r (p / 32) (true, false, false, (x : Int))) x (p % 32) e) (f : Int) (q : Int) = entAt n L (f : Int) (q : Int) := fun f q hf hq hne hne2 => by
    rw [entAt_put_other l2 (by omega) (by omega) (by omega) hq (Or.inl hne), entAt_put_other l1 (by omega) (by omega) (by omega) hq hne2, entAt_row_other h.len (by omega) (by omega) hq hne]
  have hzero : ∀ j, j < 32 → F (32 * (p / 32) + j) = z0 := fun j hj => by
    rcases h.fit r F (32 * (p / 32) + j) hr with hz | hf
    · exact hz
    · have := (hasB_iff F (p / 32)).2 ⟨j, hj, hf.1⟩
      rw [hh] at this; cases this
  refine ⟨by rw [putT_length]; exact l2, hn, h.top, fun r' => ?_, fun r' F' hr' => ?_, fun r' F' i hr' hi hhi => ?_, fun r' F' i hr' hi hhi => ?_, fun r' F' p' hr' => ?_, fun f => ?_, fun f hf => ?_⟩
  · rw [h.sp r']
    by_cases e' : r' = r
    · subst e'; rw [updW_same, hr]; rfl
    · rw [updW_other _ _ _ _ e']
  · by_cases e' : r' = r
    · subst e'; exact ⟨hrm, by rw [updW_other _ _ _ _ hrx]; exact hor⟩
    · rw [updW_other _ _ _ _ e'] at hr'
      obtain ⟨k1, k2⟩ := h.root r' F' hr'
      exact ⟨k1, by rw [updW_other _ _ _ _ (by rintro rfl; rw [ho] at k2; cases k2)]; exact k2⟩
  · by_cases e' : r' = r
    · subst e'
      rw [updW_same] at hr'
      cases hr'
      by_cases ei : i = p / 32
      · subst ei
        refine ⟨x, hx, updW_same _ _ _, ?_, fun j hj => ?_⟩
        · rw [entAt_put_other l2 (by omega) (by omega) (by omega) hi (Or.inl hrx)]
          exact entAt_put_same l1 (by omega) hi okt (by simp; omega)
        · by_cases ej : j = p % 32
          · rw [ej, entAt_put_same l2 (by omega) (by omega) ok hlo, show 32 * (p / 32) + p % 32 = p by omega, updF_same]
          · rw [entAt_put_other l2 (by omega) (by omega) (by omega) hj (Or.inr ej), entAt_put_other l1 (by omega) (by omega) (by omega) hj (Or.inl (Ne.symm hrx)), entAt_row_same h.len (by omega) hj, updF_other _ _ _ _ (by omega), hzero j hj]
      · rw [hasB_far _ _ _ _ ei] at hhi
        obtain ⟨g', hg', hog', k1, k2⟩ := h.yes r' F i hr hi hhi
        have hgx : g' ≠ x := by rintro rfl; rw [ho] at hog'; cases hog'
        have hgr : g' ≠ r' := by rintro rfl; rw [hor] at hog'; cases hog'
        exact ⟨g', hg', by rw [updW_other _ _ _ _ hgx]; exact hog', by rw [far _ _ hrm hi hrx (Or.inr ei)]; exact k1, fun j hj => by rw [far _ _ hg' hj hgx (Or.inl hgr), updF_other _ _ _ _ (by omega)]; exact k2 j hj⟩
    · rw [updW_other _ _ _ _ e'] at hr'
      obtain ⟨g', hg', hog', k1, k2⟩ := h.yes r' F' i hr' hi hhi
      obtain ⟨hrm', hor'⟩ := h.root r' F' hr'
      have hgx : g' ≠ x := by rintro rfl; rw [ho] at hog'; cases hog'
      have hgr : g' ≠ r := by rintro rfl; rw [hor] at hog'; cases hog'
      have hrx' : r' ≠ x := by rintro rfl; rw [hor'] at ho; cases ho
      exact ⟨g', hg', by rw [updW_other _ _ _ _ hgx]; exact hog', by rw [far _ _ hrm' hi hrx' (Or.inl e')]; exact k1, fun j hj => by rw [far _ _ hg' hj hgx (Or.inl hgr)]; exact k2 j hj⟩
  · by_cases e' : r' = r
    · subst e'
      rw [updW_same] at hr'
      cases hr'
      by_cases ei : i = p / 32
      · subst ei; rw [hasB_put _ _ _ he.1] at hhi; cases hhi
      · rw [hasB_far _ _ _ _ ei] at hhi
        rw [far _ _ hrm hi hrx (Or.inr ei)]
        exact h.no r' F i hr hi hhi
    · rw [updW_other _ _ _ _ e'] at hr'
      obtain ⟨hrm', hor'⟩ := h.root r' F' hr'
      have hrx' : r' ≠ x := by rintro rfl; rw [hor'] at ho; cases ho
      rw [far _ _ hrm' hi hrx' (Or.inl e')]
      exact h.no r' F' i hr' hi hhi
  · by_cases e' : r' = r
    · subst e'
      rw [updW_same] at hr'
      cases hr'
      by_cases ep : p' = p
      · subst ep; rw [updF_same]; exact Or.inr he
      · rw [updF_other _ _ _ _ ep]; exact h.fit r' F p' hr
    · rw [updW_other _ _ _ _ e'] at hr'; exact h.fit r' F' p' hr'
  · by_cases e : f = x
    · subst e; rw [upd_same, updW_same]; rfl
    · rw [upd_other _ _ _ _ e, updW_other _ _ _ _ e]; exact h.held f
  · by_cases e : f = x
    · subst e; exact hx
    · rw [updW_other _ _ _ _ e] at hf; exact h.low f hf
/-- A table's last page is mapped no more. -/
theorem Inv.drop {n m : Nat} {L : List Int} {R : Nat → Nat} {S : Nat → Bool} {W : Nat → Option Sp} {O : Own} (h : Inv n m L R S W O) {r : Nat} {F : Sp} (hr : W r = some F) {p g : Nat} (hp : p < 1024) (hg : g < m) (hog : O g = some (r, some (p / 32))) (hh' : hasB (updF F p z0) (p / 32) = false) :
    Inv n m (putT (putT L g (p % 32) z0) r (p / 32) z0) (upd R g 0) S (updW W r (some (updF F p z0))) (updW O g none) := by
  have hn := h.nm
  obtain ⟨ok, hlo⟩ := fits_z h.pos (Or.inl rfl : z0 = z0 ∨ fitsE n z0)
  obtain ⟨hrm, hor⟩ := h.root r F hr
  have hrg : r ≠ g := by rintro rfl; rw [hor] at hog; cases hog
  have l1 : (putT L g (p % 32) z0).length = n * 32 := by rw [putT_length]; exact h.len
  have far : ∀ f q : Nat, f < m → q < 32 → f ≠ g → (f ≠ r ∨ q ≠ p / 32) → entAt n (putT (putT L g (p % 32) z0) r (p / 32) z0) (f : Int) (q : Int) = entAt n L (f : Int) (q : Int) := fun f q hf hq hne hne2 => by
    rw [entAt_put_other l1 (by omega) (by omega) (by omega) hq hne2, entAt_put_other h.len (by omega) (by omega) (by omega) hq (Or.inl hne)]
  refine ⟨by rw [putT_length]; exact l1, hn, h.top, fun r' => ?_, fun r' F' hr' => ?_, fun r' F' i hr' hi hhi => ?_, fun r' F' i hr' hi hhi => ?_, fun r' F' p' hr' => ?_, fun f => ?_, fun f hf => ?_⟩
  · rw [h.sp r']
    by_cases e' : r' = r
    · subst e'; rw [updW_same, hr]; rfl
    · rw [updW_other _ _ _ _ e']
  · by_cases e' : r' = r
    · subst e'; exact ⟨hrm, by rw [updW_other _ _ _ _ hrg]; exact hor⟩
    · rw [updW_other _ _ _ _ e'] at hr'
      obtain ⟨k1, k2⟩ := h.root r' F' hr'
      exact ⟨k1, by rw [updW_other _ _ _ _ (by rintro rfl; rw [hog] at k2; cases k2)]; exact k2⟩
  · by_cases e' : r' = r
    · subst e'
      rw [updW_same] at hr'
      cases hr'
      by_cases ei : i = p / 32
      · subst ei; rw [hh'] at hhi; cases hhi
      · rw [hasB_far _ _ _ _ ei] at hhi
        obtain ⟨g', hg', hog', k1, k2⟩ := h.yes r' F i hr hi hhi
        have hgg : g' ≠ g := by rintro rfl; rw [hog] at hog'; cases hog'; exact ei rfl
        have hgr : g' ≠ r' := by rintro rfl; rw [hor] at hog'; cases hog'
        exact ⟨g', hg', by rw [updW_other _ _ _ _ hgg]; exact hog', by rw [far _ _ hrm hi hrg (Or.inr ei)]; exact k1, fun j hj => by rw [far _ _ hg' hj hgg (Or.inl hgr), updF_other _ _ _ _ (by omega)]; exact k2 j hj⟩
    · rw [updW_other _ _ _ _ e'] at hr'
      obtain ⟨g', hg', hog', k1, k2⟩ := h.yes r' F' i hr' hi hhi
      obtain ⟨hrm', hor'⟩ := h.root r' F' hr'
      have hgg : g' ≠ g := by rintro rfl; rw [hog] at hog'; cases hog'; exact e' rfl
      have hgr : g' ≠ r := by rintro rfl; rw [hor] at hog'; cases hog'
      have hrg' : r' ≠ g := by rintro rfl; rw [hor'] at hog; cases hog
      exact ⟨g', hg', by rw [updW_other _ _ _ _ hgg]; exact hog', by rw [far _ _ hrm' hi hrg' (Or.inl e')]; exact k1, fun j hj => by rw [far _ _ hg' hj hgg (Or.inl hgr)]; exact k2 j hj⟩
  · by_cases e' : r' = r
    · subst e'
      rw [updW_same] at hr'
      cases hr'
      by_cases ei : i = p / 32
      · subst ei
        exact entAt_put_same l1 (by omega) hi ok hlo
      · rw [hasB_far _ _ _ _ ei] at hhi
        rw [far _ _ hrm hi hrg (Or.inr ei)]
        exact h.no r' F i hr hi hhi
    · rw [updW_other _ _ _ _ e'] at hr'
      obtain ⟨hrm', hor'⟩ := h.root r' F' hr'
      have hrg' : r' ≠ g := by rintro rfl; rw [hor'] at hog; cases hog
      rw [far _ _ hrm' hi hrg' (Or.inl e')]
      exact h.no r' F' i hr' hi hhi
  · by_cases e' : r' = r
    · subst e'
      rw [updW_same] at hr'
      cases hr'
      by_cases ep : p' = p
      · subst ep; rw [updF_same]; exact Or.inl rfl
      · rw [updF_other _ _ _ _ ep]; exact h.fit r' F p' hr
    · rw [updW_other _ _ _ _ e'] at hr'; exact h.fit r' F' p' hr'
  · by_cases e : f = g
    · subst e; rw [upd_same, updW_same]; rfl
    · rw [upd_other _ _ _ _ e, updW_other _ _ _ _ e]; exact h.held f
  · by_cases e : f = g
    · subst e; exact hg
    · rw [updW_other _ _ _ _ e] at hf; exact h.low f hf
/-- A space less. -/
theorem Inv.close {n m : Nat} {L : List Int} {R : Nat → Nat} {S : Nat → Bool} {W : Nat → Option Sp} {O : Own} (h : Inv n m L R S W O) {r : Nat} {F : Sp} (hr : W r = some F) :
    Inv n m L (upd R r 0) (updS S r false) (updW W r none) (updW O r none) := by
  obtain ⟨hrm, hor⟩ := h.root r F hr
  refine ⟨h.len, h.nm, h.top, fun r' => ?_, fun r' F' hr' => ?_, fun r' F' i hr' hi hhi => ?_, fun r' F' i hr' hi hhi => ?_, fun r' F' p' hr' => ?_, fun f => ?_, fun f hf => ?_⟩
  · unfold updS updW
    split
    · rfl
    · exact h.sp r'
  · by_cases e' : r' = r
    · subst e'; rw [updW_same] at hr'; cases hr'
    · rw [updW_other _ _ _ _ e'] at hr' ⊢; exact h.root r' F' hr'
  · by_cases e' : r' = r
    · subst e'; rw [updW_same] at hr'; cases hr'
    · rw [updW_other _ _ _ _ e'] at hr'
      obtain ⟨g', hg', hog', k1, k2⟩ := h.yes r' F' i hr' hi hhi
      have hgr : g' ≠ r := by rintro rfl; rw [hor] at hog'; cases hog'
      exact ⟨g', hg', by rw [updW_other _ _ _ _ hgr]; exact hog', k1, k2⟩
  · by_cases e' : r' = r
    · subst e'; rw [updW_same] at hr'; cases hr'
    · rw [updW_other _ _ _ _ e'] at hr'; exact h.no r' F' i hr' hi hhi
  · by_cases e' : r' = r
    · subst e'; rw [updW_same] at hr'; cases hr'
    · rw [updW_other _ _ _ _ e'] at hr'; exact h.fit r' F' p' hr'
  · by_cases e : f = r
    · subst e; rw [upd_same, updW_same]; rfl
    · rw [upd_other _ _ _ _ e, updW_other _ _ _ _ e]; exact h.held f
  · by_cases e : f = r
    · subst e; exact hrm
    · rw [updW_other _ _ _ _ e] at hf; exact h.low f hf

theorem thereN_mem {n : Nat} {L : List Int} {t : Int} {k j : Nat} (hj : j < k) (hp : (getE n L t (j : Int)).1 = true) : ((j : Int), getE n L t (j : Int)) ∈ thereN n L t k := by
  induction k with
  | zero => omega
  | succ k ih =>
    simp only [thereN, List.mem_append]
    by_cases e : j = k
    · subst e; right; rw [if_pos hp]; simp
    · exact Or.inl (ih (by omega))
theorem bareB_iff (n : Nat) (L : List Int) (t : Int) : bareB n L t = true ↔ ∀ j : Nat, j < 32 → (getE n L t (j : Int)).1 = false := by
  unfold bareB thereL
  rw [List.isEmpty_iff]
  constructor
  · intro h j hj
    cases hp : (getE n L t (j : Int)).1 with
    | false => rfl
    | true => have := thereN_mem (k := 32) hj hp; rw [h] at this; simp at this
  · intro h
    rw [List.eq_nil_iff_forall_not_mem]
    intro x hx
    obtain ⟨j, hj, _, hp⟩ := thereN_bound n L t 32 x hx
    rw [h j hj] at hp; cases hp
/-- Is a space empty? -/
theorem Inv.bareRoot {n m : Nat} {L : List Int} {R : Nat → Nat} {S : Nat → Bool} {W : Nat → Option Sp} {O : Own} (h : Inv n m L R S W O) {r : Nat} {F : Sp} (hr : W r = some F) : bareB n L (r : Int) = true ↔ ∀ i, i < 32 → hasB F i = false := by
  rw [bareB_iff]
  constructor
  · intro hb i hi
    cases hh : hasB F i with
    | false => rfl
    | true =>
      obtain ⟨g, _, _, h1, _⟩ := h.yes r F i hr hi hh
      have := hb i hi
      rw [getE_some h1] at this; cases this
  · intro hb i hi
    rw [getE_some (h.no r F i hr hi (hb i hi))]; rfl
/-- Is a table empty, of which a page is mapped no more? -/
theorem bareTab {n m : Nat} {L : List Int} {R : Nat → Nat} {S : Nat → Bool} {W : Nat → Option Sp} {O : Own} (h : Inv n m L R S W O) {r : Nat} {F : Sp} (hr : W r = some F) {p g : Nat} (hp : p < 1024) (hg : g < m) (hent : entAt n L (r : Int) ((p / 32 : Nat) : Int) = some (true, false, false, (g : Int))) (hh : hasB F (p / 32) = true) : bareB n (putT L g (p % 32) z0) (g : Int) = !hasB (updF F p z0) (p / 32) := by
  have hn := h.nm
  obtain ⟨ok, hlo⟩ := fits_z h.pos (Or.inl rfl : z0 = z0 ∨ fitsE n z0)
  obtain ⟨g2, hg2, hog2, h1, h2⟩ := h.yes r F (p / 32) hr (by omega) hh
  obtain rfl : g2 = g := by rw [hent] at h1; simp at h1; omega
  have hj : ∀ j : Nat, j < 32 → getE n (putT L g2 (p % 32) z0) (g2 : Int) (j : Int) = updF F p z0 (32 * (p / 32) + j) := fun j hj => by
    by_cases ej : j = p % 32
    · rw [ej, getE_some (entAt_put_same h.len (by omega) (by omega) ok hlo), show 32 * (p / 32) + p % 32 = p by omega, updF_same]
    · rw [updF_other _ _ _ _ (by omega)]
      exact getE_some (by rw [entAt_put_other h.len (by omega) (by omega) (by omega) hj (Or.inr ej)]; exact h2 j hj)
  rw [Bool.eq_iff_iff, bareB_iff]
  constructor
  · intro hb
    cases hx : hasB (updF F p z0) (p / 32) with
    | false => rfl
    | true =>
      obtain ⟨j, hj1, hj2⟩ := (hasB_iff _ _).1 hx
      rw [← hj j hj1, hb j hj1] at hj2; cases hj2
  · intro hb j hj1
    rw [hj j hj1]
    cases hx : (updF F p z0 (32 * (p / 32) + j)).1 with
    | false => rfl
    | true =>
      have := (hasB_iff (updF F p z0) (p / 32)).2 ⟨j, hj1, hx⟩
      rw [this] at hb; cases hb
end Go.Proofs.YtfpcoomkbmfchaaGreatDoor

/- What calls answer, of spaces as functions of pages. Nothing of a program. -/
namespace Go.Proofs.YtfpcoomkbmfchaaGreatDoor
open Go.RowKit
set_option maxRecDepth 100000

/-- The space of a root; how many frames are left. -/
def spOf (W : Nat → Option Sp) (r : Int) : Option Sp := if 0 ≤ r then W r.toNat else none
def leftM (m : Nat) (R : Nat → Nat) : Nat := leftA (madeP m) R 0
theorem leftM_eq (m : Nat) (R : Nat → Nat) : leftM m R = (freeL (0, m) R).length := by
  unfold leftM leftA
  rw [if_pos (by simp [partB, madeP])]; rfl
theorem spOf_nat (W : Nat → Option Sp) (r : Nat) : spOf W (r : Int) = W r := by simp [spOf]
theorem spOf_some {W : Nat → Option Sp} {r : Int} {F : Sp} (h : spOf W r = some F) : ∃ k : Nat, r = (k : Int) ∧ W k = some F := by
  unfold spOf at h
  split at h
  · exact ⟨r.toNat, by omega, h⟩
  · cases h
theorem Inv.isSp_eq {n m : Nat} {L : List Int} {R : Nat → Nat} {S : Nat → Bool} {W : Nat → Option Sp} {O : Own} (h : Inv n m L R S W O) (r : Int) : isSp S r = (spOf W r).isSome := by
  unfold isSp spOf
  by_cases h0 : 0 ≤ r
  · simp [h0, h.sp]
  · simp [h0]
theorem allocm_no {m : Nat} {R : Nat → Nat} (h : leftM m R = 0) (L : List Int) : allocA (madeP m) R 0 = (0, 3) ∧ allocL (madeP m) R 0 L = L ∧ allocR (madeP m) R 0 = R := by
  rw [leftM_eq] at h
  have hp : partB (madeP m) 0 = true := by simp [partB, madeP]
  have he : freeL ((madeP m).getD (0 : Int).toNat (0, 0)) R = [] := List.eq_nil_of_length_eq_zero h
  unfold allocA allocL allocR
  simp only [hp, if_true, he]
  exact ⟨trivial, trivial, trivial⟩
theorem allocm_yes {m : Nat} {R : Nat → Nat} (h : leftM m R ≠ 0) (L : List Int) : ∃ x : Nat, x < m ∧ R x = 0 ∧ allocA (madeP m) R 0 = ((x : Int), 0) ∧ allocL (madeP m) R 0 L = putRow L x zeros ∧ allocR (madeP m) R 0 = upd R x 1 ∧ leftM m (upd R x 1) + 1 = leftM m R := by
  rw [leftM_eq] at h
  have hp : partB (madeP m) 0 = true := by simp [partB, madeP]
  cases he : freeL (0, m) R with
  | nil => rw [he] at h; exact absurd rfl h
  | cons x r =>
    have he' : freeL ((madeP m).getD (0 : Int).toNat (0, 0)) R = x :: r := he
    have hm := (mem_freeL (0, m) R x).1 (by rw [he]; simp)
    refine ⟨x, by have := hm.1.2; simpa using this, hm.2, ?_, ?_, ?_, ?_⟩
    · unfold allocA; simp only [hp, if_true, he']
    · unfold allocL; simp only [hp, if_true, he']
    · unfold allocR; simp only [hp, if_true, he']
    · rw [leftM_eq, leftM_eq, freeL_take (0, m) R x 1 r he (by decide), he]; simp
theorem free_made {m g : Nat} {R : Nat → Nat} (hg : g < m) (h1 : R g = 1) : freeR (madeP m) R (g : Int) = upd R g 0 ∧ leftM m (upd R g 0) = leftM m R + 1 := by
  have ho : ownA (madeP m) (g : Int) = (((0 : Nat) : Int), 0) := ownA_is _ _ 0 (by simp [madeP]) (by simp [madeP, inP]; omega) (fun j hj => absurd hj (Nat.not_lt_zero _))
  have hh : heldE (madeP m) R (g : Int) = 0 := by unfold heldE; rw [ho, refI_nat, h1]; simp
  refine ⟨by unfold freeR; rw [if_pos hh, Int.toNat_natCast, h1], ?_⟩
  obtain ⟨a, b⟩ := freeL_give (0, m) R g ⟨by simp, by simp; exact hg⟩ (by omega)
  rw [leftM_eq, leftM_eq, b, ins_length]
theorem Inv.one {n m : Nat} {L : List Int} {R : Nat → Nat} {S : Nat → Bool} {W : Nat → Option Sp} {O : Own} (h : Inv n m L R S W O) {g : Nat} {o : Nat × Option Nat} (ho : O g = some o) : R g = 1 ∧ g < m := by
  refine ⟨by rw [h.held, ho]; rfl, h.low g (by rw [ho]; rfl)⟩

/-- Open. -/
theorem Inv.openS {n m : Nat} {L : List Int} {R : Nat → Nat} {S : Nat → Bool} {W : Nat → Option Sp} {O : Own} (h : Inv n m L R S W O) :
    (leftM m R = 0 ∧ openA (madeP m) L R S = ((0, 3), L, R, S)) ∨
    (∃ (x : Nat) (L' : List Int) (R' : Nat → Nat) (O' : Own), x < m ∧ W x = none ∧ openA (madeP m) L R S = (((x : Int), 0), L', R', updS S x true) ∧ Inv n m L' R' (updS S x true) (updW W x (some fun _ => z0)) O' ∧ leftM m R' + 1 = leftM m R) := by
  by_cases h0 : leftM m R = 0
  · obtain ⟨a, b, c⟩ := allocm_no h0 L
    refine Or.inl ⟨h0, ?_⟩
    unfold openA
    rw [a, b, c, if_neg (by decide)]
  · obtain ⟨x, hx, hr, a, b, c, d⟩ := allocm_yes h0 L
    obtain ⟨i1, i2⟩ := h.open_ hx hr
    refine Or.inr ⟨x, _, _, _, hx, i2, ?_, i1, d⟩
    unfold openA
    rw [a, b, c, if_pos rfl]; rfl
/-- What stands against a page of a space. -/
def askErr (W : Nat → Option Sp) (r pg : Int) (fine : Bool) : Int := if (0 ≤ pg ∧ pg < 1024) ∧ fine = true then (if (spOf W r).isSome then 0 else 4) else 2
def fitV (n : Nat) (e : Ent) : Bool := fitB n e.1 e.2.1 e.2.2.1 e.2.2.2
theorem fitV_iff (n : Nat) (e : Ent) : fitV n e = true ↔ fitsE n e := by
  unfold fitV fitB fitsE
  simp only [Bool.and_eq_true, decide_eq_true_eq]
theorem numE_in {pg : Int} (h : 0 ≤ pg ∧ pg < 1024) : numE pg = 0 := by unfold numE; rw [if_pos h]
theorem numE_out {pg : Int} (h : ¬ (0 ≤ pg ∧ pg < 1024)) : numE pg = 2 := by unfold numE; rw [if_neg h]
theorem fitE_in {n : Nat} {e : Ent} (h : fitV n e = true) : fitE n e.1 e.2.1 e.2.2.1 e.2.2.2 = 0 := by unfold fitE; rw [show fitB n e.1 e.2.1 e.2.2.1 e.2.2.2 = true from h]; rfl
theorem fitE_out {n : Nat} {e : Ent} (h : fitV n e = false) : fitE n e.1 e.2.1 e.2.2.1 e.2.2.2 = 2 := by unfold fitE; rw [show fitB n e.1 e.2.1 e.2.2.1 e.2.2.2 = false from h]; rfl
theorem askErr_out {W : Nat → Option Sp} {r pg : Int} {b : Bool} (h : ¬ ((0 ≤ pg ∧ pg < 1024) ∧ b = true)) : askErr W r pg b = 2 := by unfold askErr; rw [if_neg h]
theorem askErr_no {W : Nat → Option Sp} {r pg : Int} {b : Bool} (h : (0 ≤ pg ∧ pg < 1024) ∧ b = true) (hs : (spOf W r).isSome = false) : askErr W r pg b = 4 := by unfold askErr; rw [if_pos h, hs]; rfl
theorem askErr_yes {W : Nat → Option Sp} {r pg : Int} {b : Bool} (h : (0 ≤ pg ∧ pg < 1024) ∧ b = true) (hs : (spOf W r).isSome = true) : askErr W r pg b = 0 := by unfold askErr; rw [if_pos h, hs]; rfl
theorem first1 (k : Int) : firstE [k] = k := by by_cases hk : k = 0 <;> simp [firstE, hk]
/-- What a row of questions tells, where space, page and entry are asked. -/
theorem ask5 {n m : Nat} {L : List Int} {R : Nat → Nat} {S : Nat → Bool} {W : Nat → Option Sp} {O : Own} (h : Inv n m L R S W O) (r pg : Int) (e : Ent) (k : Int) :
    firstE [0, numE pg, fitE n e.1 e.2.1 e.2.2.1 e.2.2.2, openE S r, k] = if askErr W r pg (fitV n e) = 0 then k else askErr W r pg (fitV n e) := by
  by_cases h1 : 0 ≤ pg ∧ pg < 1024
  · cases h2 : fitV n e with
    | true =>
      cases hs : (spOf W r).isSome with
      | true =>
        rw [askErr_yes ⟨h1, rfl⟩ hs, if_pos rfl]
        simp only [firstE, numE_in h1, fitE_in h2, if_true, openE, h.isSp_eq, hs]
        exact first1 k
      | false =>
        rw [askErr_no ⟨h1, rfl⟩ hs, if_neg (by decide)]
        simp [firstE, numE_in h1, fitE_in h2, openE, h.isSp_eq, hs]
    | false =>
      rw [askErr_out (by simp), if_neg (by decide)]
      simp [firstE, numE_in h1, fitE_out h2]
  · rw [askErr_out (fun hh => h1 hh.1), if_neg (by decide)]
    simp [firstE, numE_out h1]
theorem ask4 {n m : Nat} {L : List Int} {R : Nat → Nat} {S : Nat → Bool} {W : Nat → Option Sp} {O : Own} (h : Inv n m L R S W O) (r pg : Int) (k : Int) :
    firstE [0, numE pg, openE S r, k] = if askErr W r pg true = 0 then k else askErr W r pg true := by
  by_cases h1 : 0 ≤ pg ∧ pg < 1024
  · cases hs : (spOf W r).isSome with
    | true =>
      rw [askErr_yes ⟨h1, rfl⟩ hs, if_pos rfl]
      simp only [firstE, numE_in h1, if_true, openE, h.isSp_eq, hs]
      exact first1 k
    | false =>
      rw [askErr_no ⟨h1, rfl⟩ hs, if_neg (by decide)]
      simp [firstE, numE_in h1, openE, h.isSp_eq, hs]
  · rw [askErr_out (fun hh => h1 hh.1), if_neg (by decide)]
    simp [firstE, numE_out h1]
theorem askErr_zero {W : Nat → Option Sp} {r pg : Int} {b : Bool} (h : askErr W r pg b = 0) : ∃ (k p : Nat) (F : Sp), r = (k : Int) ∧ pg = (p : Int) ∧ p < 1024 ∧ W k = some F ∧ b = true ∧ spOf W r = some F := by
  unfold askErr at h
  split at h
  · rename_i hh
    split at h
    · rename_i hs
      obtain ⟨F, hF⟩ := Option.isSome_iff_exists.1 hs
      obtain ⟨k, hk, hw⟩ := spOf_some hF
      exact ⟨k, pg.toNat, F, hk, by omega, by omega, hw, hh.2, hF⟩
    · cases h
  · cases h
/-- Map: the error; the spaces. -/
def mapErr (n : Nat) (W : Nat → Option Sp) (left : Nat) (r pg : Int) (e : Ent) : Int :=
  if askErr W r pg (fitV n e) = 0 then
    (match spOf W r with
    | none => 0
    | some F => if (F pg.toNat).1 = true then 5 else if hasB F (pg.toNat / 32) = false ∧ left = 0 then 3 else 0)
  else askErr W r pg (fitV n e)
def putW (W : Nat → Option Sp) (r pg : Int) (e : Ent) : Nat → Option Sp := updW W r.toNat ((spOf W r).map fun F => updF F pg.toNat e)
def needs (W : Nat → Option Sp) (r pg : Int) : Nat := match spOf W r with
  | none => 0
  | some F => if hasB F (pg.toNat / 32) = true then 0 else 1
theorem pg_div (p : Nat) : ((p : Int) / 32) = ((p / 32 : Nat) : Int) := by omega
theorem pg_mod (p : Nat) : ((p : Int) % 32) = ((p % 32 : Nat) : Int) := by omega
theorem putI_nat (L : List Int) (f q : Nat) (e : Ent) : putI L (f : Int) (q : Int) e = putT L f q e := by simp [putI]
theorem Inv.mapS {n m : Nat} {L : List Int} {R : Nat → Nat} {S : Nat → Bool} {W : Nat → Option Sp} {O : Own} (h : Inv n m L R S W O) (r pg : Int) (e : Ent) :
    ∃ (L' : List Int) (R' : Nat → Nat) (O' : Own), mapA n (madeP m) L R S r pg e.1 e.2.1 e.2.2.1 e.2.2.2 = (mapErr n W (leftM m R) r pg e, L', R') ∧
      (mapErr n W (leftM m R) r pg e = 0 → Inv n m L' R' S (putW W r pg e) O' ∧ leftM m R' + needs W r pg = leftM m R) ∧
      (mapErr n W (leftM m R) r pg e ≠ 0 → Inv n m L' R' S W O' ∧ R' = R) := by
  by_cases h0 : askErr W r pg (fitV n e) = 0
  · obtain ⟨k, p, F, rfl, rfl, hp, hw, hfit, hF⟩ := askErr_zero h0
    have he := (fitV_iff n e).1 hfit
    have hmp : mpE n L S (k : Int) (p : Int) e.1 e.2.1 e.2.2.1 e.2.2.2 = unmE n L (k : Int) (p : Int) := by
      unfold mpE
      rw [ask5 h, if_pos h0]
    have hme : mapErr n W (leftM m R) (k : Int) (p : Int) e = if (F p).1 = true then 5 else if hasB F (p / 32) = false ∧ leftM m R = 0 then 3 else 0 := by
      unfold mapErr
      rw [if_pos h0, hF]; simp
    have hpw : putW W (k : Int) (p : Int) e = updW W k (some (updF F p e)) := by unfold putW; rw [hF]; simp
    have hnd : needs W (k : Int) (p : Int) = if hasB F (p / 32) = true then 0 else 1 := by unfold needs; rw [hF]; simp
    rw [hme, hpw, hnd]
    have hu : unmE n L (k : Int) (p : Int) = if (F p).1 = true then 5 else 0 := by unfold unmE; rw [h.find2 hw p hp]
    by_cases hfp : (F p).1 = true
    · rw [if_pos hfp]
      refine ⟨L, R, O, ?_, fun hh => absurd hh (by decide), fun _ => ⟨h, rfl⟩⟩
      unfold mapA
      rw [hmp, hu, if_pos hfp, if_neg (by decide)]
    · rw [if_neg hfp]
      have hz : F p = z0 := by
        rcases h.fit k F p hw with hz | hf
        · exact hz
        · exact absurd hf.1 hfp
      rcases h.find hw p hp with ⟨hh, g, hg, hog, hent, hfd⟩ | ⟨hh, _, hfd⟩
      · rw [if_neg (by rw [hh]; simp)]
        refine ⟨putT L g (p % 32) e, R, O, ?_, fun _ => ⟨h.page hw hp hg hog hent hh (Or.inr he) (hasB_put F p e he.1), by rw [if_pos hh]; rfl⟩, fun hne => absurd rfl hne⟩
        unfold mapA
        rw [hmp, hu, if_neg hfp, if_pos rfl, hfd, if_pos rfl, pg_mod, putI_nat]
      · by_cases hl : leftM m R = 0
        · rw [if_pos ⟨hh, hl⟩]
          obtain ⟨a, b, c⟩ := allocm_no hl L
          refine ⟨L, R, O, ?_, fun hx => absurd hx (by decide), fun _ => ⟨h, rfl⟩⟩
          unfold mapA
          rw [hmp, hu, if_neg hfp, if_pos rfl, hfd, if_neg (by decide), a, if_neg (by decide)]
        · rw [if_neg (fun hx => hl hx.2)]
          obtain ⟨x, hx, hr0, a, b, c, d⟩ := allocm_yes hl L
          refine ⟨_, _, _, ?_, fun _ => ⟨h.fresh hw hp hx hr0 hh he, by rw [if_neg (by rw [hh]; decide)]; exact d⟩, fun hne => absurd rfl hne⟩
          unfold mapA
          rw [hmp, hu, if_neg hfp, if_pos rfl, hfd, if_neg (by decide), a, if_pos rfl, b, c, pg_mod, pg_div]
          simp only [putI_nat]
  · have hme : mapErr n W (leftM m R) r pg e = askErr W r pg (fitV n e) := by unfold mapErr; rw [if_neg h0]
    rw [hme]
    refine ⟨L, R, O, ?_, fun hh => absurd hh h0, fun _ => ⟨h, rfl⟩⟩
    have hmp : mpE n L S r pg e.1 e.2.1 e.2.2.1 e.2.2.2 = askErr W r pg (fitV n e) := by unfold mpE; rw [ask5 h, if_neg h0]
    unfold mapA
    rw [hmp, if_neg h0]
/-- Set. -/
def setErr (n : Nat) (W : Nat → Option Sp) (r pg : Int) (e : Ent) : Int :=
  if askErr W r pg (fitV n e) = 0 then
    (match spOf W r with
    | none => 0
    | some F => if (F pg.toNat).1 = true then 0 else 4)
  else askErr W r pg (fitV n e)
theorem Inv.setS {n m : Nat} {L : List Int} {R : Nat → Nat} {S : Nat → Bool} {W : Nat → Option Sp} {O : Own} (h : Inv n m L R S W O) (r pg : Int) (e : Ent) :
    setE n L S r pg e.1 e.2.1 e.2.2.1 e.2.2.2 = setErr n W r pg e ∧
    (setErr n W r pg e = 0 → Inv n m (setL n L S r pg e.1 e.2.1 e.2.2.1 e.2.2.2) R S (putW W r pg e) O) ∧
    (setErr n W r pg e ≠ 0 → setL n L S r pg e.1 e.2.1 e.2.2.1 e.2.2.2 = L) := by
  by_cases h0 : askErr W r pg (fitV n e) = 0
  · obtain ⟨k, p, F, rfl, rfl, hp, hw, hfit, hF⟩ := askErr_zero h0
    have he := (fitV_iff n e).1 hfit
    have hse : setE n L S (k : Int) (p : Int) e.1 e.2.1 e.2.2.1 e.2.2.2 = mapE n L (k : Int) (p : Int) := by unfold setE; rw [ask5 h, if_pos h0]
    have hme : setErr n W (k : Int) (p : Int) e = if (F p).1 = true then 0 else 4 := by unfold setErr; rw [if_pos h0, hF]; simp
    have hu : mapE n L (k : Int) (p : Int) = if (F p).1 = true then 0 else 4 := by unfold mapE; rw [h.find2 hw p hp]
    have hpw : putW W (k : Int) (p : Int) e = updW W k (some (updF F p e)) := by unfold putW; rw [hF]; simp
    refine ⟨by rw [hse, hu, hme], fun hh => ?_, fun hne => ?_⟩
    · rw [hme] at hh
      have hfp : (F p).1 = true := by
        by_cases hx : (F p).1 = true
        · exact hx
        · rw [if_neg hx] at hh; cases hh
      rcases h.find hw p hp with ⟨hh, g, hg, hog, hent, hfd⟩ | ⟨_, hz, _⟩
      · unfold setL
        rw [hse, hu, if_pos hfp, if_pos rfl, hfd, hpw, pg_mod, putI_nat]
        exact h.page hw hp hg hog hent hh (Or.inr he) (hasB_put F p e he.1)
      · rw [hz] at hfp; cases hfp
    · unfold setL
      rw [hse, hu, ← hme, if_neg hne]
  · have hme : setErr n W r pg e = askErr W r pg (fitV n e) := by unfold setErr; rw [if_neg h0]
    have hse : setE n L S r pg e.1 e.2.1 e.2.2.1 e.2.2.2 = askErr W r pg (fitV n e) := by unfold setE; rw [ask5 h, if_neg h0]
    refine ⟨by rw [hse, hme], fun hh => absurd (hme ▸ hh) h0, fun _ => ?_⟩
    unfold setL
    rw [hse, if_neg h0]
end Go.Proofs.YtfpcoomkbmfchaaGreatDoor

/- What calls answer, of spaces as functions of pages: Unmap, Close, Query, Tables, All. Nothing of a program. -/
namespace Go.Proofs.YtfpcoomkbmfchaaGreatDoor
open Go.RowKit
set_option maxRecDepth 100000

/-- Unmap: the error; the entry. -/
def unmErr (W : Nat → Option Sp) (r pg : Int) : Int :=
  if askErr W r pg true = 0 then
    (match spOf W r with
    | none => 0
    | some F => if (F pg.toNat).1 = true then 0 else 4)
  else askErr W r pg true
def entW (W : Nat → Option Sp) (r pg : Int) : Ent := match spOf W r with
  | none => z0
  | some F => F pg.toNat
def frees (W : Nat → Option Sp) (r pg : Int) : Nat := match spOf W r with
  | none => 0
  | some F => if hasB (updF F pg.toNat z0) (pg.toNat / 32) = true then 0 else 1
theorem unmAsk_eq {n m : Nat} {L : List Int} {R : Nat → Nat} {S : Nat → Bool} {W : Nat → Option Sp} {O : Own} (h : Inv n m L R S W O) (r pg : Int) : unmAsk n L S r pg = unmErr W r pg := by
  unfold unmAsk unmErr
  rw [ask4 h]
  by_cases h0 : askErr W r pg true = 0
  · obtain ⟨k, p, F, rfl, rfl, hp, hw, _, hF⟩ := askErr_zero h0
    rw [if_pos h0, if_pos h0, hF]
    unfold mapE
    rw [h.find2 hw p hp]; simp
  · rw [if_neg h0, if_neg h0]
theorem unmErr_zero {W : Nat → Option Sp} {r pg : Int} (h : unmErr W r pg = 0) : ∃ (k p : Nat) (F : Sp), r = (k : Int) ∧ pg = (p : Int) ∧ p < 1024 ∧ W k = some F ∧ spOf W r = some F ∧ (F p).1 = true := by
  unfold unmErr at h
  by_cases h0 : askErr W r pg true = 0
  · obtain ⟨k, p, F, rfl, rfl, hp, hw, _, hF⟩ := askErr_zero h0
    rw [if_pos h0, hF] at h
    refine ⟨k, p, F, rfl, rfl, hp, hw, hF, ?_⟩
    by_cases hx : (F p).1 = true
    · exact hx
    · simp [hx] at h
  · rw [if_neg h0] at h; exact absurd h h0
theorem Inv.unmS {n m : Nat} {L : List Int} {R : Nat → Nat} {S : Nat → Bool} {W : Nat → Option Sp} {O : Own} (h : Inv n m L R S W O) (r pg : Int) :
    ∃ (L' : List Int) (R' : Nat → Nat) (O' : Own), unmA n (madeP m) L R S r pg = (if unmErr W r pg = 0 then entW W r pg else z0, unmErr W r pg, L', R') ∧
      (unmErr W r pg = 0 → Inv n m L' R' S (putW W r pg z0) O' ∧ leftM m R' = leftM m R + frees W r pg) ∧
      (unmErr W r pg ≠ 0 → Inv n m L' R' S W O' ∧ R' = R) := by
  by_cases h0 : unmErr W r pg = 0
  · obtain ⟨k, p, F, rfl, rfl, hp, hw, hF, hfp⟩ := unmErr_zero h0
    have hpw : putW W (k : Int) (p : Int) z0 = updW W k (some (updF F p z0)) := by unfold putW; rw [hF]; simp
    have hfr : frees W (k : Int) (p : Int) = if hasB (updF F p z0) (p / 32) = true then 0 else 1 := by unfold frees; rw [hF]; simp
    have hen : entW W (k : Int) (p : Int) = F p := by unfold entW; rw [hF]; simp
    rw [hpw, hfr, hen, h0]
    rcases h.find hw p hp with ⟨hh, g, hg, hog, hent, hfd⟩ | ⟨_, hz, _⟩
    · have hbt := bareTab h hw hp hg hent hh
      have hone := h.one hog
      obtain ⟨hfree, hleft⟩ := free_made hg hone.1
      cases hb : hasB (updF F p z0) (p / 32) with
      | true =>
        refine ⟨putT L g (p % 32) z0, R, O, ?_, fun _ => ⟨h.page hw hp hg hog hent hh (Or.inl rfl) hb, rfl⟩, fun hne => absurd rfl hne⟩
        unfold unmA
        rw [unmAsk_eq h, h0, if_pos rfl, if_pos rfl, hfd, pg_mod, putI_nat]
        simp only
        rw [hbt, hb]; rfl
      | false =>
        refine ⟨_, _, _, ?_, fun _ => ⟨h.drop hw hp hg hog hb, hleft⟩, fun hne => absurd rfl hne⟩
        unfold unmA
        rw [unmAsk_eq h, h0, if_pos rfl, if_pos rfl, hfd, pg_mod, pg_div]
        simp only [putI_nat]
        rw [hbt, hb, hfree]; rfl
    · rw [hz] at hfp; cases hfp
  · refine ⟨L, R, O, ?_, fun hh => absurd hh h0, fun _ => ⟨h, rfl⟩⟩
    unfold unmA
    rw [unmAsk_eq h, if_neg h0, if_neg h0]
/-- Query. -/
theorem Inv.qryS {n m : Nat} {L : List Int} {R : Nat → Nat} {S : Nat → Bool} {W : Nat → Option Sp} {O : Own} (h : Inv n m L R S W O) (r pg : Int) : qryA n L S r pg = if unmErr W r pg = 0 then (entW W r pg, true) else (z0, false) := by
  unfold qryA
  rw [unmAsk_eq h]
  by_cases h0 : unmErr W r pg = 0
  · obtain ⟨k, p, F, rfl, rfl, hp, hw, hF, hfp⟩ := unmErr_zero h0
    rw [if_pos h0, if_pos h0, h.find2 hw p hp]
    unfold entW; rw [hF]; simp
  · rw [if_neg h0, if_neg h0]
/-- Close: the error. -/
def emptyF (F : Sp) : Bool := (List.range 32).all fun i => !hasB F i
theorem emptyF_iff (F : Sp) : emptyF F = true ↔ ∀ i, i < 32 → hasB F i = false := by simp [emptyF]
def clsErr (W : Nat → Option Sp) (r : Int) : Int := match spOf W r with
  | none => 4
  | some F => if emptyF F = true then 0 else 9
theorem Inv.clsS {n m : Nat} {L : List Int} {R : Nat → Nat} {S : Nat → Bool} {W : Nat → Option Sp} {O : Own} (h : Inv n m L R S W O) (r : Int) :
    ∃ (R' : Nat → Nat) (S' : Nat → Bool) (O' : Own), closeA n (madeP m) L R S r = (clsErr W r, R', S') ∧
      (clsErr W r = 0 → Inv n m L R' S' (updW W r.toNat none) O' ∧ leftM m R' = leftM m R + 1) ∧
      (clsErr W r ≠ 0 → R' = R ∧ S' = S) := by
  have hce : closeE n L S r = clsErr W r := by
    unfold closeE clsErr
    cases hs : spOf W r with
    | none => simp [firstE, openE, h.isSp_eq, hs]
    | some F =>
      obtain ⟨k, rfl, hw⟩ := spOf_some hs
      simp only [firstE, if_true, openE, h.isSp_eq, hs, Option.isSome_some]
      have hb : bareB n L (k : Int) = emptyF F := by rw [Bool.eq_iff_iff, h.bareRoot hw, emptyF_iff]
      have : emptyE n L (k : Int) = if emptyF F = true then 0 else 9 := by unfold emptyE; rw [hb]
      rw [this]
      by_cases he : emptyF F = true
      · simp [he]
      · simp [he]
  by_cases h0 : clsErr W r = 0
  · cases hs : spOf W r with
    | none => unfold clsErr at h0; rw [hs] at h0; cases h0
    | some F =>
      obtain ⟨k, rfl, hw⟩ := spOf_some hs
      obtain ⟨hrm, hor⟩ := h.root k F hw
      have hone := h.one hor
      obtain ⟨hfree, hleft⟩ := free_made hrm hone.1
      refine ⟨_, _, _, ?_, fun _ => ⟨by rw [Int.toNat_natCast]; exact h.close hw, hleft⟩, fun hne => absurd h0 hne⟩
      unfold closeA
      rw [hce, if_pos h0, h0, hfree]; rfl
  · refine ⟨R, S, O, ?_, fun hh => absurd hh h0, fun _ => ⟨rfl, rfl⟩⟩
    unfold closeA
    rw [hce, if_neg h0]
/-- Tables, All. -/
def segN (F : Sp) (a : Nat) : Nat → List MapE
  | 0 => []
  | k + 1 => segN F a k ++ (if (F (a + k)).1 = true then [(((a + k : Nat) : Int), F (a + k))] else [])
theorem segN_add (F : Sp) (a b : Nat) : ∀ c, segN F a (b + c) = segN F a b ++ segN F (a + b) c
  | 0 => by simp [segN]
  | c + 1 => by
    rw [← Nat.add_assoc, segN, segN_add F a b c, segN, List.append_assoc, Nat.add_assoc]
theorem segN_none (F : Sp) (a : Nat) : ∀ c, (∀ j, j < c → (F (a + j)).1 = false) → segN F a c = []
  | 0, _ => rfl
  | c + 1, h => by rw [segN, segN_none F a c (fun j hj => h j (by omega)), h c (by omega)]; rfl
def allF (F : Sp) : List MapE := segN F 0 1024
def tabF (F : Sp) : Nat := 1 + ((List.range 32).filter (hasB F)).length
theorem Inv.thereRoot {n m : Nat} {L : List Int} {R : Nat → Nat} {S : Nat → Bool} {W : Nat → Option Sp} {O : Own} (h : Inv n m L R S W O) {r : Nat} {F : Sp} (hr : W r = some F) :
    ∀ k, k ≤ 32 → (thereN n L (r : Int) k).length = ((List.range k).filter (hasB F)).length ∧ pagesL n L (thereN n L (r : Int) k) = segN F 0 (32 * k)
  | 0, _ => ⟨rfl, rfl⟩
  | k + 1, hk => by
    obtain ⟨h1, h2⟩ := h.thereRoot hr k (by omega)
    rw [List.range_succ, List.filter_append, List.length_append, show 32 * (k + 1) = 32 * k + 32 by omega, segN_add, Nat.zero_add, ← h2, ← h1]
    cases hh : hasB F k with
    | true =>
      obtain ⟨g, hg, hog, e1, e2⟩ := h.yes r F k hr (by omega) hh
      have ht : ∀ j, j ≤ 32 → inTab (k : Int) (thereN n L (g : Int) j) = segN F (32 * k) j := by
        intro j
        induction j with
        | zero => intro _; rfl
        | succ j ih =>
          intro hj
          have e3 := getE_some (e2 j (by omega))
          rw [segN, ← ih (by omega)]
          cases hp : (F (32 * k + j)).1 with
          | true =>
            rw [thereN_yes e3 hp, inTab_snoc, if_pos rfl]
            simp only [List.append_cancel_left_eq, List.cons.injEq, Prod.mk.injEq, and_true]
            omega
          | false =>
            rw [thereN_no (by rw [e3]; exact hp)]; simp
      rw [thereN_yes (getE_some e1) rfl, pagesL_snoc, List.length_append]
      refine ⟨by simp [hh], ?_⟩
      rw [← ht 32 (by omega)]; rfl
    | false =>
      have e1 := h.no r F k hr (by omega) hh
      rw [thereN_no (by rw [getE_some e1]; rfl), segN_none F (32 * k) 32 (fun j hj => by
        cases hx : (F (32 * k + j)).1 with
        | false => rfl
        | true => have := (hasB_iff F k).2 ⟨j, hj, hx⟩; rw [hh] at this; cases this)]
      simp [hh]
def tabW (W : Nat → Option Sp) (r : Int) : Nat := match spOf W r with
  | none => 0
  | some F => tabF F
def allW (W : Nat → Option Sp) (r : Int) : List MapE := match spOf W r with
  | none => []
  | some F => allF F
theorem Inv.tabS {n m : Nat} {L : List Int} {R : Nat → Nat} {S : Nat → Bool} {W : Nat → Option Sp} {O : Own} (h : Inv n m L R S W O) (r : Int) : tabA n L S r = tabW W r := by
  unfold tabA tabW
  rw [first2]
  unfold openE
  rw [h.isSp_eq]
  cases hs : spOf W r with
  | none => simp
  | some F =>
    obtain ⟨k, rfl, hw⟩ := spOf_some hs
    simp only [Option.isSome_some, if_true]
    unfold tabF thereL
    rw [(h.thereRoot hw 32 (by omega)).1]
theorem Inv.allS {n m : Nat} {L : List Int} {R : Nat → Nat} {S : Nat → Bool} {W : Nat → Option Sp} {O : Own} (h : Inv n m L R S W O) (r : Int) : allA n L S r = allW W r := by
  unfold allA allW
  rw [first2]
  unfold openE
  rw [h.isSp_eq]
  cases hs : spOf W r with
  | none => simp
  | some F =>
    obtain ⟨k, rfl, hw⟩ := spOf_some hs
    simp only [Option.isSome_some, if_true]
    unfold allL thereL allF
    rw [(h.thereRoot hw 32 (by omega)).2]
end Go.Proofs.YtfpcoomkbmfchaaGreatDoor

/- A manager of a law's own, and its spaces as functions of pages: what each call answers, and leaves. Condition: the listed tables read as laid. -/
namespace Go.Proofs.YtfpcoomkbmfchaaGreatDoor
open Go.RowKit Go.Maps
set_option maxRecDepth 100000

/-- The manager, its spaces, how many frames are left. -/
structure Sys (W0 w : World) (tb sb : Nat) (X : PIx) (n m c : Nat) (W : Nat → Option Sp) : Prop where
  ex : ∃ L R S O, Mg W0 w tb sb X L R S ∧ Inv n m L R S W O ∧ leftM m R = c
  hn : X.n = n
  hP : X.P = madeP m
theorem Sys.step {W0 w w' : World} {tb sb n m c : Nat} {X : PIx} {W : Nat → Option Sp} (h : Sys W0 w tb sb X n m c W) (hb : Below w.heap.size w w') : Sys W0 w' tb sb X n m c W := by
  obtain ⟨L, R, S, O, h1, h2, h3⟩ := h.ex
  exact ⟨⟨L, R, S, O, h1.step hb, h2, h3⟩, h.hn, h.hP⟩
theorem Sys.below {W0 w : World} {tb sb n m c : Nat} {X : PIx} {W : Nat → Option Sp} (h : Sys W0 w tb sb X n m c W) : Below W0.heap.size W0 w := by
  obtain ⟨_, _, _, _, h1, _⟩ := h.ex
  exact h1.own.below
/-- A block of another kind is none that calls change. -/
theorem Sys.other {W0 w : World} {tb sb n m c : Nat} {X : PIx} {W : Nat → Option Sp} {cs : Array Value} {t : TypeId} {z : Nat × Nat} {b : Nat} (h : Sys W0 w tb sb X n m c W) (hb : w.heap[b]? = some (.cells cs t z)) (ht : t ≠ 205 ∧ t ≠ 189 ∧ t ≠ 120 ∧ t ≠ 115 ∧ t ≠ 136) : ¬ mgB X sb b := fun hk => by
  obtain ⟨_, _, _, _, h1, _⟩ := h.ex
  rcases hk with hk | rfl
  · exact h1.own.st.other hb ht (Or.inl hk)
  · obtain ⟨es, ck, hm⟩ := h1.spc.isMap
    rw [hm] at hb; cases hb
theorem Sys.far {W0 w w1 w2 : World} {tb sb n m c c' : Nat} {X : PIx} {W W' : Nat → Option Sp} (h : Sys W0 w tb sb X n m c W) (h1 : Sys W0 w1 tb sb X n m c' W') (hb : Below w.heap.size w1 w2) (hk : Below w.heap.size w w1 → True) : Sys W0 w2 tb sb X n m c' W' := by
  obtain ⟨L0, R0', S0, O0, k0, _⟩ := h.ex
  obtain ⟨L, R, S, O, k1, k2, k3⟩ := h1.ex
  have ho : Only w1 w2 (fun k => w.heap.size ≤ k) := ⟨hb.os, hb.tape, hb.output, hb.size, fun k hk hB => hb.block k (by omega)⟩
  have hlt := lt_of_block k0.box
  have _ := hk
  exact ⟨⟨L, R, S, O, ⟨⟨k1.own.st.kept ho (fun k hk e => by have := k0.own.st.lt k hk; omega), k1.own.below.trans (hb.mono k0.own.below.size), k1.own.new, k1.own.laid⟩, k1.lw, k1.wd, ho.kept k1.box (by omega), k1.spc.same (hb.block _ k0.spc.lt), k1.nt, k1.ns, k1.ne, k1.low⟩, k2, k3⟩, h1.hn, h1.hP⟩
/-- What a call leaves. -/
structure Gone (W0 w w' : World) (tb sb : Nat) (X : PIx) (n m c : Nat) (W : Nat → Option Sp) : Prop where
  st : Sys W0 w' tb sb X n m c W
  only : Only w w' (mgB X sb)
def MadeSys (m : Nat) (W0 : World) (e : Ending) (w' : World) : Prop := ∃ tb sb X, e = .returned (.tuple #[.pointer (some ⟨X.mp, 0, none⟩), .pointer (some ⟨X.pb, 0, none⟩), .pointer (some ⟨tb, 0, none⟩), .bool true]) ∧ Sys W0 w' tb sb X (m + 2) m m (fun _ => none)
section
variable {W0 w : World} {tb sb n m c : Nat} {X : PIx} {W : Nat → Option Sp}
def OpenPost (W0 w : World) (tb sb : Nat) (X : PIx) (n m c : Nat) (W : Nat → Option Sp) (e : Ending) (w' : World) : Prop :=
  (c = 0 ∧ e = .returned (.tuple #[.int .i64 0, .int .i64 3]) ∧ Gone W0 w w' tb sb X n m c W) ∨
  (∃ x : Nat, x < m ∧ W x = none ∧ 1 ≤ c ∧ e = .returned (.tuple #[.int .i64 (x : Int), .int .i64 0]) ∧ Gone W0 w w' tb sb X n m (c - 1) (updW W x (some fun _ => z0)))
theorem Sys.open_ (h : Sys W0 w tb sb X n m c W) : Calls Tryz.prog 88 #[.pointer (some ⟨tb, 0, none⟩)] w (OpenPost W0 w tb sb X n m c W) := by
  obtain ⟨L, R, S, O, k1, k2, k3⟩ := h.ex
  rcases k2.openS with ⟨h0, ho⟩ | ⟨x, L', R', O', hx, hw, ho, hi, hl⟩
  · exact (k1.open_ h.hP ho).mono fun e w' ⟨he, ht⟩ => Or.inl ⟨by omega, he, ⟨⟨_, _, _, _, ht.st, k2, k3⟩, h.hn, h.hP⟩, ht.only⟩
  · exact (k1.open_ h.hP ho).mono fun e w' ⟨he, ht⟩ => Or.inr ⟨x, hx, hw, by omega, he, ⟨⟨_, _, _, _, ht.st, hi, by omega⟩, h.hn, h.hP⟩, ht.only⟩
def mapC (n c : Nat) (W : Nat → Option Sp) (r pg : Int) (e : Ent) : Nat := if mapErr n W c r pg e = 0 then c - needs W r pg else c
def mapW (n c : Nat) (W : Nat → Option Sp) (r pg : Int) (e : Ent) : Nat → Option Sp := if mapErr n W c r pg e = 0 then putW W r pg e else W
theorem Sys.map (h : Sys W0 w tb sb X n m c W) (r pg : Int) (p x k : Bool) (g : Int) (hr : I64 r) (hp : I64 pg) :
    Calls Tryz.prog 101 #[.pointer (some ⟨tb, 0, none⟩), .int .i64 r, .int .i64 pg, ent p x k g] w fun e w' => e = .returned (.int .i64 (mapErr n W c r pg (p, x, k, g))) ∧ Gone W0 w w' tb sb X n m (mapC n c W r pg (p, x, k, g)) (mapW n c W r pg (p, x, k, g)) := by
  obtain ⟨L, R, S, O, k1, k2, rfl⟩ := h.ex
  obtain ⟨L', R', O', ho, y1, y2⟩ := k2.mapS r pg (p, x, k, g)
  refine (k1.map_ h.hn h.hP hr hp ho).mono fun e w' ⟨he, ht⟩ => ⟨he, ?_, ht.only⟩
  unfold mapC mapW
  by_cases h0 : mapErr n W (leftM m R) r pg (p, x, k, g) = 0
  · obtain ⟨i1, i2⟩ := y1 h0
    rw [if_pos h0, if_pos h0]
    exact ⟨⟨_, _, _, _, ht.st, i1, by omega⟩, h.hn, h.hP⟩
  · obtain ⟨i1, rfl⟩ := y2 h0
    rw [if_neg h0, if_neg h0]
    exact ⟨⟨_, _, _, _, ht.st, i1, rfl⟩, h.hn, h.hP⟩
def setW (n : Nat) (W : Nat → Option Sp) (r pg : Int) (e : Ent) : Nat → Option Sp := if setErr n W r pg e = 0 then putW W r pg e else W
theorem Sys.set (h : Sys W0 w tb sb X n m c W) (r pg : Int) (p x k : Bool) (g : Int) (hr : I64 r) (hp : I64 pg) :
    Calls Tryz.prog 102 #[.pointer (some ⟨tb, 0, none⟩), .int .i64 r, .int .i64 pg, ent p x k g] w fun e w' => e = .returned (.int .i64 (setErr n W r pg (p, x, k, g))) ∧ Gone W0 w w' tb sb X n m c (setW n W r pg (p, x, k, g)) := by
  obtain ⟨L, R, S, O, k1, k2, k3⟩ := h.ex
  obtain ⟨ho, y1, y2⟩ := k2.setS r pg (p, x, k, g)
  refine (k1.set_ h.hn hr hp ho rfl).mono fun e w' ⟨he, ht⟩ => ⟨he, ?_, ht.only⟩
  unfold setW
  by_cases h0 : setErr n W r pg (p, x, k, g) = 0
  · rw [if_pos h0]
    exact ⟨⟨_, _, _, _, ht.st, y1 h0, k3⟩, h.hn, h.hP⟩
  · rw [if_neg h0]
    rw [y2 h0] at ht
    exact ⟨⟨_, _, _, _, ht.st, k2, k3⟩, h.hn, h.hP⟩
def unmC (c : Nat) (W : Nat → Option Sp) (r pg : Int) : Nat := if unmErr W r pg = 0 then c + frees W r pg else c
def unmW (W : Nat → Option Sp) (r pg : Int) : Nat → Option Sp := if unmErr W r pg = 0 then putW W r pg z0 else W
def unmE' (W : Nat → Option Sp) (r pg : Int) : Ent := if unmErr W r pg = 0 then entW W r pg else z0
theorem Sys.unmap (h : Sys W0 w tb sb X n m c W) (r pg : Int) (hr : I64 r) (hp : I64 pg) {p x k : Bool} {g : Int} (he : unmE' W r pg = (p, x, k, g)) :
    Calls Tryz.prog 90 #[.pointer (some ⟨tb, 0, none⟩), .int .i64 r, .int .i64 pg] w fun e w' => e = .returned (.tuple #[ent p x k g, .int .i64 (unmErr W r pg)]) ∧ Gone W0 w w' tb sb X n m (unmC c W r pg) (unmW W r pg) := by
  obtain ⟨L, R, S, O, k1, k2, rfl⟩ := h.ex
  obtain ⟨L', R', O', ho, y1, y2⟩ := k2.unmS r pg
  unfold unmE' at he
  rw [he] at ho
  refine (k1.unmap_ h.hn h.hP hr hp ho).mono fun e w' ⟨he, ht⟩ => ⟨he, ?_, ht.only⟩
  unfold unmC unmW
  by_cases h0 : unmErr W r pg = 0
  · obtain ⟨i1, i2⟩ := y1 h0
    rw [if_pos h0, if_pos h0]
    exact ⟨⟨_, _, _, _, ht.st, i1, i2⟩, h.hn, h.hP⟩
  · obtain ⟨i1, rfl⟩ := y2 h0
    rw [if_neg h0, if_neg h0]
    exact ⟨⟨_, _, _, _, ht.st, i1, rfl⟩, h.hn, h.hP⟩
theorem Sys.query (h : Sys W0 w tb sb X n m c W) (r pg : Int) (hr : I64 r) (hp : I64 pg) {p x k : Bool} {g : Int} (he : unmE' W r pg = (p, x, k, g)) :
    Calls Tryz.prog 82 #[.pointer (some ⟨tb, 0, none⟩), .int .i64 r, .int .i64 pg] w fun e w' => e = .returned (.tuple #[ent p x k g, .bool (decide (unmErr W r pg = 0))]) ∧ Below w.heap.size w w' := by
  obtain ⟨L, R, S, O, k1, k2, k3⟩ := h.ex
  refine k1.query_ h.hn hr hp ?_
  rw [k2.qryS, ← he]
  unfold unmE'
  by_cases h0 : unmErr W r pg = 0
  · simp [h0]
  · simp [h0]
def clsC (c : Nat) (W : Nat → Option Sp) (r : Int) : Nat := if clsErr W r = 0 then c + 1 else c
def clsW (W : Nat → Option Sp) (r : Int) : Nat → Option Sp := if clsErr W r = 0 then updW W r.toNat none else W
theorem Sys.close (h : Sys W0 w tb sb X n m c W) (r : Int) (hr : I64 r) :
    Calls Tryz.prog 45 #[.pointer (some ⟨tb, 0, none⟩), .int .i64 r] w fun e w' => e = .returned (.int .i64 (clsErr W r)) ∧ Gone W0 w w' tb sb X n m (clsC c W r) (clsW W r) := by
  obtain ⟨L, R, S, O, k1, k2, rfl⟩ := h.ex
  obtain ⟨R', S', O', ho, y1, y2⟩ := k2.clsS r
  refine (k1.close_ h.hn h.hP hr ho).mono fun e w' ⟨he, ht⟩ => ⟨he, ?_, ht.only⟩
  unfold clsC clsW
  by_cases h0 : clsErr W r = 0
  · obtain ⟨i1, i2⟩ := y1 h0
    rw [if_pos h0, if_pos h0]
    exact ⟨⟨_, _, _, _, ht.st, i1, i2⟩, h.hn, h.hP⟩
  · obtain ⟨rfl, rfl⟩ := y2 h0
    rw [if_neg h0, if_neg h0]
    exact ⟨⟨_, _, _, _, ht.st, k2, rfl⟩, h.hn, h.hP⟩
theorem Sys.tables (h : Sys W0 w tb sb X n m c W) (r : Int) (hr : I64 r) :
    Calls Tryz.prog 98 #[.pointer (some ⟨tb, 0, none⟩), .int .i64 r] w fun e w' => e = .returned (.int .i64 (tabW W r : Int)) ∧ Below w.heap.size w w' := by
  obtain ⟨L, R, S, O, k1, k2, k3⟩ := h.ex
  refine k1.tables_ h.hn hr ?_
  rw [k2.tabS]
theorem Sys.all (h : Sys W0 w tb sb X n m c W) (r : Int) (hr : I64 r) :
    Calls Tryz.prog 92 #[.pointer (some ⟨tb, 0, none⟩), .int .i64 r] w (AllMPost w (allW W r)) := by
  obtain ⟨L, R, S, O, k1, k2, k3⟩ := h.ex
  have := allm_ok k1 r hr
  rw [h.hn, k2.allS] at this
  exact this
theorem Sys.left (h : Sys W0 w tb sb X n m c W) : Calls Tryz.prog 32 #[.pointer (some ⟨X.pb, 0, none⟩), .int .i64 0] w fun e w' => e = .returned (.int .i64 (c : Int)) ∧ Below w.heap.size w w' := by
  obtain ⟨L, R, S, O, k1, k2, rfl⟩ := h.ex
  refine left_is (X := X) ?_ k1.own.st
  rw [h.hP]; rfl
end
end Go.Proofs.YtfpcoomkbmfchaaGreatDoor

/- Counting tables and mappings of spaces; the law PtableFull. Condition: the listed tables read as laid. -/
namespace Go.Proofs.YtfpcoomkbmfchaaGreatDoor
open Go.RowKit Go.Maps
set_option maxRecDepth 100000

def zF : Sp := fun _ => z0
section
variable {n c : Nat} {W : Nat → Option Sp} {r : Int} {F : Sp} {p : Nat} {e : Ent}
end
end Go.Proofs.YtfpcoomkbmfchaaGreatDoor
