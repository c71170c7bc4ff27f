/- Texts of mine, joined: S1 S2. What each says and under which conditions stands at its head, below. -/
import Derived.Test.YtkenipanpimolaaGreatDoorGP
/- Spaces as functions of pages, tables as words, in a partition's range, with frames beside them that are no table's: what always holds, what each call answers. Nothing of a program. -/
namespace Go.Proofs.YtkenipanpimolaaGreatDoor
open Go.RowKit
set_option maxRecDepth 100000

structure InvS (n lo hi : Nat) (L : List Int) (R : Nat → Nat) (S : Nat → Bool) (W : Nat → Option Sp) (O : Own) : Prop where
  len : L.length = n * 32
  nm : lo < hi ∧ hi ≤ n
  top : n ≤ 1024
  sp : ∀ r : Nat, S r = (W r).isSome
  root : ∀ (r : Nat) (F : Sp), W r = some F → (lo ≤ r ∧ r < hi) ∧ O r = some (r, none)
  yes : ∀ (r : Nat) (F : Sp) (i : Nat), W r = some F → i < 32 → hasB F i = true → ∃ g : Nat, (lo ≤ g ∧ g < hi) ∧ O g = some (r, some i) ∧ entAt n L (r : Int) (i : Int) = some (true, false, false, (g : Int)) ∧ ∀ j : Nat, j < 32 → entAt n L (g : Int) (j : Int) = some (F (32 * i + j))
  no : ∀ (r : Nat) (F : Sp) (i : Nat), W r = some F → i < 32 → hasB F i = false → entAt n L (r : Int) (i : Int) = some z0
  fit : ∀ (r : Nat) (F : Sp) (p : Nat), W r = some F → F p = z0 ∨ fitsE n (F p)
  held : ∀ f : Nat, (O f).isSome = true → R f = 1
  low : ∀ f : Nat, (O f).isSome → (lo ≤ f ∧ f < hi)
/-- How often a frame is held that is no table's. -/
def QF (R : Nat → Nat) (O : Own) (f : Nat) : Nat := if (O f).isSome = true then 0 else R f
/-- Frames that are no table's stay, with their words. -/
structure DataK (n : Nat) (L : List Int) (R : Nat → Nat) (O : Own) (L' : List Int) (R' : Nat → Nat) (O' : Own) : Prop where
  ref : ∀ f, QF R' O' f = QF R O f
  word : ∀ f q, f < n → q < 32 → QF R O f ≠ 0 → L'.getD (f * 32 + q) 0 = L.getD (f * 32 + q) 0
theorem DataK.refl (n : Nat) (L : List Int) (R : Nat → Nat) (O : Own) : DataK n L R O L R O := ⟨fun _ => rfl, fun _ _ _ _ _ => rfl⟩
theorem DataK.trans {n : Nat} {L L' L2 : List Int} {R R' R2 : Nat → Nat} {O O' O2 : Own} (h : DataK n L R O L' R' O') (k : DataK n L' R' O' L2 R2 O2) : DataK n L R O L2 R2 O2 :=
  ⟨fun f => (k.ref f).trans (h.ref f), fun f q hf hq h0 => (k.word f q hf hq (by rw [h.ref]; exact h0)).trans (h.word f q hf hq h0)⟩
theorem DataK.put {n : Nat} {L : List Int} {R : Nat → Nat} {O : Own} {g q : Nat} {e : Ent} (hl : L.length = n * 32) (hg : g < n ∧ q < 32) (ho : (O g).isSome = true) : DataK n L R O (putT L g q e) R O :=
  ⟨fun _ => rfl, fun f q' hf hq h0 => by
    have hne : f ≠ g := by rintro rfl; unfold QF at h0; rw [if_pos ho] at h0; exact h0 rfl
    rw [putT, getD_setI _ _ _ _ (by rw [hl]; omega), if_neg (by omega)]⟩
theorem DataK.take {n : Nat} {L : List Int} {R : Nat → Nat} {O : Own} {x : Nat} (hl : L.length = n * 32) (hx : x < n) (h0 : R x = 0) (ho : O x = none) (v : Nat × Option Nat) : DataK n L R O (putRow L x zeros) (upd R x 1) (updW O x (some v)) :=
  ⟨fun f => by
    unfold QF
    by_cases e : f = x
    · subst e; rw [updW_same, ho, h0]; rfl
    · rw [updW_other _ _ _ _ e, upd_other _ _ _ _ e],
   fun f q hf hq hQ => by
    have hne : f ≠ x := by rintro rfl; unfold QF at hQ; rw [ho, h0] at hQ; exact hQ rfl
    rw [getD_row _ _ _ (by rw [hl]; omega), if_neg (by omega)]⟩
theorem InvS.find {n lo hi : Nat} {L : List Int} {R : Nat → Nat} {S : Nat → Bool} {W : Nat → Option Sp} {O : Own} (h : InvS n lo hi L R S W O) {r : Nat} {F : Sp} (hr : W r = some F) (p : Nat) (hp : p < 1024) :
    (hasB F (p / 32) = true ∧ ∃ g : Nat, (lo ≤ g ∧ g < hi) ∧ O g = some (r, some (p / 32)) ∧ entAt n L (r : Int) ((p / 32 : Nat) : Int) = some (true, false, false, (g : Int)) ∧ findE n L (r : Int) (p : Int) = ((true, false, false, (g : Int)), F p)) ∨ (hasB F (p / 32) = false ∧ F p = z0 ∧ findE n L (r : Int) (p : Int) = (z0, z0)) := by
  have e1 : (p : Int) / 32 = ((p / 32 : Nat) : Int) := by omega
  have e2 : (p : Int) % 32 = ((p % 32 : Nat) : Int) := by omega
  cases hh : hasB F (p / 32) with
  | true =>
    obtain ⟨g, hg, ho, h1, h2⟩ := h.yes r F (p / 32) hr (by omega) hh
    refine Or.inl ⟨rfl, g, hg, ho, h1, ?_⟩
    have h3 := h2 (p % 32) (by omega)
    rw [show 32 * (p / 32) + p % 32 = p by omega] at h3
    unfold findE
    rw [e1, e2, getE_some h1, if_pos rfl]
    rw [getE_some h3]
  | false =>
    have h1 := h.no r F (p / 32) hr (by omega) hh
    refine Or.inr ⟨rfl, ?_, ?_⟩
    · rcases h.fit r F p hr with hz | hf
      · exact hz
      · have := hasB_of hf.1; rw [hh] at this; cases this
    · unfold findE
      rw [e1, getE_some h1, if_neg (by decide)]
theorem InvS.find2 {n lo hi : Nat} {L : List Int} {R : Nat → Nat} {S : Nat → Bool} {W : Nat → Option Sp} {O : Own} (h : InvS n lo hi L R S W O) {r : Nat} {F : Sp} (hr : W r = some F) (p : Nat) (hp : p < 1024) : (findE n L (r : Int) (p : Int)).2 = F p := by
  rcases h.find hr p hp with ⟨_, g, _, _, _, e⟩ | ⟨_, hz, e⟩
  · rw [e]
  · rw [e, hz]
theorem InvS.free {n lo hi : Nat} {L : List Int} {R : Nat → Nat} {S : Nat → Bool} {W : Nat → Option Sp} {O : Own} (h : InvS n lo hi L R S W O) {x : Nat} (h0 : R x = 0) : O x = none := by
  cases ho : O x with
  | none => rfl
  | some v => have := h.held x (by rw [ho]; rfl); omega
theorem InvS.pos {n lo hi : Nat} {L : List Int} {R : Nat → Nat} {S : Nat → Bool} {W : Nat → Option Sp} {O : Own} (h : InvS n lo hi L R S W O) : 0 < n := by have := h.nm; omega
/-- A space more. -/
theorem InvS.open_ {n lo hi : Nat} {L : List Int} {R : Nat → Nat} {S : Nat → Bool} {W : Nat → Option Sp} {O : Own} (h : InvS n lo hi L R S W O) {x : Nat} (hx : (lo ≤ x ∧ x < hi)) (h0 : R x = 0) :
    InvS n lo hi (putRow L x zeros) (upd R x 1) (updS S x true) (updW W x (some fun _ => z0)) (updW O x (some (x, none))) ∧ W x = none := by
  have ho := h.free h0
  have hn := h.nm
  have hw : W x = none := by
    cases hw : W x with
    | none => rfl
    | some F => have := (h.root x F hw).2; rw [ho] at this; cases this
  have hz : ∀ i, hasB (fun _ => z0) i = false := fun i => by
    cases hh : hasB (fun _ => z0) i with
    | false => rfl
    | true => obtain ⟨j, _, hj⟩ := (hasB_iff _ _).1 hh; cases hj
  refine ⟨⟨putRow_length h.len (by omega) (by decide), hn, h.top, fun r => ?_, fun r F hr => ?_, fun r F i hr hi hh => ?_, fun r F i hr hi hh => ?_, fun r F p hr => ?_, fun f => ?_, fun f hf => ?_⟩, hw⟩
  · unfold updS updW
    split
    · rfl
    · exact h.sp r
  · by_cases e : r = x
    · subst e; exact ⟨hx, updW_same _ _ _⟩
    · rw [updW_other _ _ _ _ e] at hr
      rw [updW_other _ _ _ _ e]
      exact h.root r F hr
  · by_cases e : r = x
    · subst e; rw [updW_same] at hr; cases hr; rw [hz] at hh; cases hh
    · rw [updW_other _ _ _ _ e] at hr
      obtain ⟨g, hg, hog, h1, h2⟩ := h.yes r F i hr hi hh
      have hgx : g ≠ x := by rintro rfl; rw [ho] at hog; cases hog
      have hrm := (h.root r F hr).1
      refine ⟨g, hg, by rw [updW_other _ _ _ _ hgx]; exact hog, by rw [entAt_row_other h.len (by omega) (by omega) hi e]; exact h1, fun j hj => by rw [entAt_row_other h.len (by omega) (by omega) hj hgx]; exact h2 j hj⟩
  · by_cases e : r = x
    · subst e; exact entAt_row_same h.len (by omega) hi
    · rw [updW_other _ _ _ _ e] at hr
      have hrm := (h.root r F hr).1
      rw [entAt_row_other h.len (by omega) (by omega) hi e]
      exact h.no r F i hr hi hh
  · by_cases e : r = x
    · subst e; rw [updW_same] at hr; cases hr; exact Or.inl rfl
    · rw [updW_other _ _ _ _ e] at hr
      exact h.fit r F p hr
  · intro hf
    by_cases e : f = x
    · subst e; exact upd_same _ _ _
    · rw [updW_other _ _ _ _ e] at hf; rw [upd_other _ _ _ _ e]; exact h.held f hf
  · by_cases e : f = x
    · subst e; exact hx
    · rw [updW_other _ _ _ _ e] at hf; exact h.low f hf
/-- A page of a table that is there, and stays. -/
theorem InvS.page {n lo hi : Nat} {L : List Int} {R : Nat → Nat} {S : Nat → Bool} {W : Nat → Option Sp} {O : Own} (h : InvS n lo hi L R S W O) {r : Nat} {F : Sp} (hr : W r = some F) {p g : Nat} (hp : p < 1024) (hg : (lo ≤ g ∧ g < hi)) (hog : O g = some (r, some (p / 32))) (hent : entAt n L (r : Int) ((p / 32 : Nat) : Int) = some (true, false, false, (g : Int))) (hh : hasB F (p / 32) = true) {e : Ent} (he : e = z0 ∨ fitsE n e) (hh' : hasB (updF F p e) (p / 32) = true) :
    InvS n lo hi (putT L g (p % 32) e) R S (updW W r (some (updF F p e))) O := by
  have hn := h.nm
  obtain ⟨ok, hlo⟩ := fits_z h.pos he
  obtain ⟨hrm, hor⟩ := h.root r F hr
  have hrg : r ≠ g := by rintro rfl; rw [hor] at hog; cases hog
  obtain ⟨g2, hg2, hog2, h1, h2⟩ := h.yes r F (p / 32) hr (by omega) hh
  have far : ∀ f q : Nat, (lo ≤ f ∧ f < hi) → q < 32 → f ≠ g → entAt n (putT L g (p % 32) e) (f : Int) (q : Int) = entAt n L (f : Int) (q : Int) := fun f q hf hq hne => entAt_put_other h.len (by omega) (by omega) (by omega) hq (Or.inl hne)
  refine ⟨by rw [putT_length]; exact h.len, hn, h.top, fun r' => ?_, fun r' F' hr' => ?_, fun r' F' i hr' hi hhi => ?_, fun r' F' i hr' hi hhi => ?_, fun r' F' p' hr' => ?_, h.held, h.low⟩
  · rw [h.sp r']
    by_cases e' : r' = r
    · subst e'; rw [updW_same, hr]; rfl
    · rw [updW_other _ _ _ _ e']
  · by_cases e' : r' = r
    · subst e'; exact ⟨hrm, hor⟩
    · rw [updW_other _ _ _ _ e'] at hr'; exact h.root r' F' hr'
  · by_cases e' : r' = r
    · subst e'
      rw [updW_same] at hr'
      cases hr'
      by_cases ei : i = p / 32
      · subst ei
        obtain rfl : g2 = g := by rw [hent] at h1; simp at h1; omega
        refine ⟨g2, hg2, hog2, by rw [far _ _ hrm hi hrg]; exact h1, fun j hj => ?_⟩
        by_cases ej : j = p % 32
        · rw [ej, entAt_put_same h.len (by omega) (by omega) ok hlo, show 32 * (p / 32) + p % 32 = p by omega, updF_same]
        · rw [entAt_put_other h.len (by omega) (by omega) (by omega) hj (Or.inr ej), updF_other _ _ _ _ (by omega)]
          exact h2 j hj
      · rw [hasB_far _ _ _ _ ei] at hhi
        obtain ⟨g', hg', hog', k1, k2⟩ := h.yes r' F i hr hi hhi
        have hgg : g' ≠ g := by rintro rfl; rw [hog] at hog'; cases hog'; exact ei rfl
        exact ⟨g', hg', hog', by rw [far _ _ hrm hi hrg]; exact k1, fun j hj => by rw [far _ _ hg' hj hgg, updF_other _ _ _ _ (by omega)]; exact k2 j hj⟩
    · rw [updW_other _ _ _ _ e'] at hr'
      obtain ⟨g', hg', hog', k1, k2⟩ := h.yes r' F' i hr' hi hhi
      have hgg : g' ≠ g := by rintro rfl; rw [hog] at hog'; cases hog'; exact e' rfl
      obtain ⟨hrm', hor'⟩ := h.root r' F' hr'
      have hrg' : r' ≠ g := by rintro rfl; rw [hor'] at hog; cases hog
      exact ⟨g', hg', hog', by rw [far _ _ hrm' hi hrg']; exact k1, fun j hj => by rw [far _ _ hg' hj hgg]; exact k2 j hj⟩
  · by_cases e' : r' = r
    · subst e'
      rw [updW_same] at hr'
      cases hr'
      by_cases ei : i = p / 32
      · subst ei; rw [hh'] at hhi; cases hhi
      · rw [hasB_far _ _ _ _ ei] at hhi
        rw [far _ _ hrm hi hrg]
        exact h.no r' F i hr hi hhi
    · rw [updW_other _ _ _ _ e'] at hr'
      obtain ⟨hrm', hor'⟩ := h.root r' F' hr'
      have hrg' : r' ≠ g := by rintro rfl; rw [hor'] at hog; cases hog
      rw [far _ _ hrm' hi hrg']
      exact h.no r' F' i hr' hi hhi
  · by_cases e' : r' = r
    · subst e'
      rw [updW_same] at hr'
      cases hr'
      by_cases ep : p' = p
      · subst ep; rw [updF_same]; exact he
      · rw [updF_other _ _ _ _ ep]; exact h.fit r' F p' hr
    · rw [updW_other _ _ _ _ e'] at hr'; exact h.fit r' F' p' hr'
/-- A page of a table that is made for it. -/
theorem InvS.fresh {n lo hi : Nat} {L : List Int} {R : Nat → Nat} {S : Nat → Bool} {W : Nat → Option Sp} {O : Own} (h : InvS n lo hi L R S W O) {r : Nat} {F : Sp} (hr : W r = some F) {p x : Nat} (hp : p < 1024) (hx : (lo ≤ x ∧ x < hi)) (h0 : R x = 0) (hh : hasB F (p / 32) = false) {e : Ent} (he : fitsE n e) :
    InvS n lo hi (putT (putT (putRow L x zeros) r (p / 32) (true, false, false, (x : Int))) x (p % 32) e) (upd R x 1) S (updW W r (some (updF F p e))) (updW O x (some (r, some (p / 32)))) := by
  have hn := h.nm
  have ho := h.free h0
  obtain ⟨ok, hlo⟩ := fits_z h.pos (Or.inr he)
  obtain ⟨hrm, hor⟩ := h.root r F hr
  have hrx : r ≠ x := by rintro rfl; rw [hor] at ho; cases ho
  have l1 : (putRow L x zeros).length = n * 32 := putRow_length h.len (by omega) (by decide)
  have l2 : (putT (putRow L x zeros) r (p / 32) (true, false, false, (x : Int))).length = n * 32 := by rw [putT_length]; exact l1
  have okt : okE true false false (x : Int) = true := by have := h.top; simp [okE]; omega
  have far : ∀ f q : Nat, (lo ≤ f ∧ f < hi) → q < 32 → f ≠ x → (f ≠ r ∨ q ≠ p / 32) → entAt n (putT (putT (putRow L x zeros) r (p / 32) (true, false, false, (x : Int))) x (p % 32) e) (f : Int) (q : Int) = entAt n L (f : Int) (q : Int) := fun f q hf hq hne hne2 => by
    rw [entAt_put_other l2 (by omega) (by omega) (by omega) hq (Or.inl hne), entAt_put_other l1 (by omega) (by omega) (by omega) hq hne2, entAt_row_other h.len (by omega) (by omega) hq hne]
  have hzero : ∀ j, j < 32 → F (32 * (p / 32) + j) = z0 := fun j hj => by
    rcases h.fit r F (32 * (p / 32) + j) hr with hz | hf
    · exact hz
    · have := (hasB_iff F (p / 32)).2 ⟨j, hj, hf.1⟩
      rw [hh] at this; cases this
  refine ⟨by rw [putT_length]; exact l2, hn, h.top, fun r' => ?_, fun r' F' hr' => ?_, fun r' F' i hr' hi hhi => ?_, fun r' F' i hr' hi hhi => ?_, fun r' F' p' hr' => ?_, fun f => ?_, fun f hf => ?_⟩
  · rw [h.sp r']
    by_cases e' : r' = r
    · subst e'; rw [updW_same, hr]; rfl
    · rw [updW_other _ _ _ _ e']
  · by_cases e' : r' = r
    · subst e'; exact ⟨hrm, by rw [updW_other _ _ _ _ hrx]; exact hor⟩
    · rw [updW_other _ _ _ _ e'] at hr'
      obtain ⟨k1, k2⟩ := h.root r' F' hr'
      exact ⟨k1, by rw [updW_other _ _ _ _ (by rintro rfl; rw [ho] at k2; cases k2)]; exact k2⟩
  · by_cases e' : r' = r
    · subst e'
      rw [updW_same] at hr'
      cases hr'
      by_cases ei : i = p / 32
      · subst ei
        refine ⟨x, hx, updW_same _ _ _, ?_, fun j hj => ?_⟩
        · rw [entAt_put_other l2 (by omega) (by omega) (by omega) hi (Or.inl hrx)]
          exact entAt_put_same l1 (by omega) hi okt (by simp; omega)
        · by_cases ej : j = p % 32
          · rw [ej, entAt_put_same l2 (by omega) (by omega) ok hlo, show 32 * (p / 32) + p % 32 = p by omega, updF_same]
          · rw [entAt_put_other l2 (by omega) (by omega) (by omega) hj (Or.inr ej), entAt_put_other l1 (by omega) (by omega) (by omega) hj (Or.inl (Ne.symm hrx)), entAt_row_same h.len (by omega) hj, updF_other _ _ _ _ (by omega), hzero j hj]
      · rw [hasB_far _ _ _ _ ei] at hhi
        obtain ⟨g', hg', hog', k1, k2⟩ := h.yes r' F i hr hi hhi
        have hgx : g' ≠ x := by rintro rfl; rw [ho] at hog'; cases hog'
        have hgr : g' ≠ r' := by rintro rfl; rw [hor] at hog'; cases hog'
        exact ⟨g', hg', by rw [updW_other _ _ _ _ hgx]; exact hog', by rw [far _ _ hrm hi hrx (Or.inr ei)]; exact k1, fun j hj => by rw [far _ _ hg' hj hgx (Or.inl hgr), updF_other _ _ _ _ (by omega)]; exact k2 j hj⟩
    · rw [updW_other _ _ _ _ e'] at hr'
      obtain ⟨g', hg', hog', k1, k2⟩ := h.yes r' F' i hr' hi hhi
      obtain ⟨hrm', hor'⟩ := h.root r' F' hr'
      have hgx : g' ≠ x := by rintro rfl; rw [ho] at hog'; cases hog'
      have hgr : g' ≠ r := by rintro rfl; rw [hor] at hog'; cases hog'
      have hrx' : r' ≠ x := by rintro rfl; rw [hor'] at ho; cases ho
      exact ⟨g', hg', by rw [updW_other _ _ _ _ hgx]; exact hog', by rw [far _ _ hrm' hi hrx' (Or.inl e')]; exact k1, fun j hj => by rw [far _ _ hg' hj hgx (Or.inl hgr)]; exact k2 j hj⟩
  · by_cases e' : r' = r
    · subst e'
      rw [updW_same] at hr'
      cases hr'
      by_cases ei : i = p / 32
      · subst ei; rw [hasB_put _ _ _ he.1] at hhi; cases hhi
      · rw [hasB_far _ _ _ _ ei] at hhi
        rw [far _ _ hrm hi hrx (Or.inr ei)]
        exact h.no r' F i hr hi hhi
    · rw [updW_other _ _ _ _ e'] at hr'
      obtain ⟨hrm', hor'⟩ := h.root r' F' hr'
      have hrx' : r' ≠ x := by rintro rfl; rw [hor'] at ho; cases ho
      rw [far _ _ hrm' hi hrx' (Or.inl e')]
      exact h.no r' F' i hr' hi hhi
  · by_cases e' : r' = r
    · subst e'
      rw [updW_same] at hr'
      cases hr'
      by_cases ep : p' = p
      · subst ep; rw [updF_same]; exact Or.inr he
      · rw [updF_other _ _ _ _ ep]; exact h.fit r' F p' hr
    · rw [updW_other _ _ _ _ e'] at hr'; exact h.fit r' F' p' hr'
  · intro hf
    by_cases e : f = x
    · subst e; exact upd_same _ _ _
    · rw [updW_other _ _ _ _ e] at hf; rw [upd_other _ _ _ _ e]; exact h.held f hf
  · by_cases e : f = x
    · subst e; exact hx
    · rw [updW_other _ _ _ _ e] at hf; exact h.low f hf
def leftS (lo hi : Nat) (R : Nat → Nat) : Nat := (freeL (lo, hi - lo) R).length
abbrev partsS (lo hi : Nat) (T : List (Nat × Nat)) : List (Nat × Nat) := (lo, hi - lo) :: T
theorem leftS_eq (T : List (Nat × Nat)) (lo hi : Nat) (R : Nat → Nat) : leftA (partsS lo hi T) R 0 = leftS lo hi R := by
  unfold leftA
  rw [if_pos (by simp [partB])]; rfl
theorem InvS.isSp_eq {n lo hi : Nat} {L : List Int} {R : Nat → Nat} {S : Nat → Bool} {W : Nat → Option Sp} {O : Own} (h : InvS n lo hi L R S W O) (r : Int) : isSp S r = (spOf W r).isSome := by
  unfold isSp spOf
  by_cases h0 : 0 ≤ r
  · simp [h0, h.sp]
  · simp [h0]
theorem allocS_no {lo hi : Nat} {R : Nat → Nat} (T : List (Nat × Nat)) (h : leftS lo hi R = 0) (L : List Int) : allocA (partsS lo hi T) R 0 = (0, 3) ∧ allocL (partsS lo hi T) R 0 L = L ∧ allocR (partsS lo hi T) R 0 = R := by
  have hp : partB (partsS lo hi T) 0 = true := by simp [partB]
  have he : freeL ((partsS lo hi T).getD (0 : Int).toNat (0, 0)) R = [] := List.eq_nil_of_length_eq_zero h
  unfold allocA allocL allocR
  simp only [hp, if_true, he]
  exact ⟨trivial, trivial, trivial⟩
theorem allocS_yes {lo hi : Nat} {R : Nat → Nat} (T : List (Nat × Nat)) (h : leftS lo hi R ≠ 0) (L : List Int) : ∃ x : Nat, (lo ≤ x ∧ x < hi) ∧ R x = 0 ∧ allocA (partsS lo hi T) R 0 = ((x : Int), 0) ∧ allocL (partsS lo hi T) R 0 L = putRow L x zeros ∧ allocR (partsS lo hi T) R 0 = upd R x 1 ∧ leftS lo hi (upd R x 1) + 1 = leftS lo hi R := by
  have hp : partB (partsS lo hi T) 0 = true := by simp [partB]
  unfold leftS at h
  cases he : freeL (lo, hi - lo) R with
  | nil => rw [he] at h; exact absurd rfl h
  | cons x r =>
    have he' : freeL ((partsS lo hi T).getD (0 : Int).toNat (0, 0)) R = x :: r := he
    have hm := (mem_freeL (lo, hi - lo) R x).1 (by rw [he]; simp)
    refine ⟨x, by have := hm.1; simp only at this; omega, hm.2, ?_, ?_, ?_, ?_⟩
    · unfold allocA; simp only [hp, if_true, he']
    · unfold allocL; simp only [hp, if_true, he']
    · unfold allocR; simp only [hp, if_true, he']
    · unfold leftS; rw [freeL_take (lo, hi - lo) R x 1 r he (by decide), he]; simp
theorem heldS {lo hi g : Nat} {R : Nat → Nat} (T : List (Nat × Nat)) (hg : lo ≤ g ∧ g < hi) (h1 : R g ≠ 0) : heldE (partsS lo hi T) R (g : Int) = 0 := by
  have ho : ownA (partsS lo hi T) (g : Int) = (((0 : Nat) : Int), 0) := ownA_is _ _ 0 (by simp) (by simp [inP]; omega) (fun j hj => absurd hj (Nat.not_lt_zero _))
  unfold heldE; rw [ho, refI_nat]; simp; omega
theorem free_S {lo hi g : Nat} {R : Nat → Nat} (T : List (Nat × Nat)) (hg : lo ≤ g ∧ g < hi) (h1 : R g ≠ 0) : freeR (partsS lo hi T) R (g : Int) = upd R g (R g - 1) := by
  unfold freeR; rw [if_pos (heldS T hg h1), Int.toNat_natCast]
theorem leftS_give {lo hi g : Nat} {R : Nat → Nat} (hg : lo ≤ g ∧ g < hi) (h1 : R g ≠ 0) : leftS lo hi (upd R g 0) = leftS lo hi R + 1 := by
  obtain ⟨a, b⟩ := freeL_give (lo, hi - lo) R g (by simp only; omega) h1
  unfold leftS
  rw [b, ins_length]
/-- Open. -/
theorem InvS.openS {n lo hi : Nat} (T : List (Nat × Nat)) {L : List Int} {R : Nat → Nat} {S : Nat → Bool} {W : Nat → Option Sp} {O : Own} (h : InvS n lo hi L R S W O) :
    (leftS lo hi R = 0 ∧ openA (partsS lo hi T) L R S = ((0, 3), L, R, S)) ∨
    (∃ (x : Nat) (L' : List Int) (R' : Nat → Nat) (O' : Own), (lo ≤ x ∧ x < hi) ∧ W x = none ∧ openA (partsS lo hi T) L R S = (((x : Int), 0), L', R', updS S x true) ∧ InvS n lo hi L' R' (updS S x true) (updW W x (some fun _ => z0)) O' ∧ leftS lo hi R' + 1 = leftS lo hi R ∧ DataK n L R O L' R' O') := by
  by_cases h0 : leftS lo hi R = 0
  · obtain ⟨a, b, c⟩ := allocS_no T h0 L
    refine Or.inl ⟨h0, ?_⟩
    unfold openA
    rw [a, b, c, if_neg (by decide)]
  · obtain ⟨x, hx, hr, a, b, c, d⟩ := allocS_yes T h0 L
    obtain ⟨i1, i2⟩ := h.open_ hx hr
    refine Or.inr ⟨x, _, _, _, hx, i2, ?_, i1, d, DataK.take h.len (by have := h.nm; omega) hr (h.free hr) _⟩
    unfold openA
    rw [a, b, c, if_pos rfl]; rfl
/-- What a row of questions tells, where space, page and entry are asked. -/
theorem ask5S {n lo hi : Nat} {L : List Int} {R : Nat → Nat} {S : Nat → Bool} {W : Nat → Option Sp} {O : Own} (h : InvS n lo hi L R S W O) (r pg : Int) (e : Ent) (k : Int) :
    firstE [0, numE pg, fitE n e.1 e.2.1 e.2.2.1 e.2.2.2, openE S r, k] = if askErr W r pg (fitV n e) = 0 then k else askErr W r pg (fitV n e) := by
  by_cases h1 : 0 ≤ pg ∧ pg < 1024
  · cases h2 : fitV n e with
    | true =>
      cases hs : (spOf W r).isSome with
      | true =>
        rw [askErr_yes ⟨h1, rfl⟩ hs, if_pos rfl]
        simp only [firstE, numE_in h1, fitE_in h2, if_true, openE, h.isSp_eq, hs]
        exact first1 k
      | false =>
        rw [askErr_no ⟨h1, rfl⟩ hs, if_neg (by decide)]
        simp [firstE, numE_in h1, fitE_in h2, openE, h.isSp_eq, hs]
    | false =>
      rw [askErr_out (by simp), if_neg (by decide)]
      simp [firstE, numE_in h1, fitE_out h2]
  · rw [askErr_out (fun hh => h1 hh.1), if_neg (by decide)]
    simp [firstE, numE_out h1]
theorem ask4S {n lo hi : Nat} {L : List Int} {R : Nat → Nat} {S : Nat → Bool} {W : Nat → Option Sp} {O : Own} (h : InvS n lo hi L R S W O) (r pg : Int) (k : Int) :
    firstE [0, numE pg, openE S r, k] = if askErr W r pg true = 0 then k else askErr W r pg true := by
  by_cases h1 : 0 ≤ pg ∧ pg < 1024
  · cases hs : (spOf W r).isSome with
    | true =>
      rw [askErr_yes ⟨h1, rfl⟩ hs, if_pos rfl]
      simp only [firstE, numE_in h1, if_true, openE, h.isSp_eq, hs]
      exact first1 k
    | false =>
      rw [askErr_no ⟨h1, rfl⟩ hs, if_neg (by decide)]
      simp [firstE, numE_in h1, openE, h.isSp_eq, hs]
  · rw [askErr_out (fun hh => h1 hh.1), if_neg (by decide)]
    simp [firstE, numE_out h1]
theorem InvS.mapS {n lo hi : Nat} (T : List (Nat × Nat)) {L : List Int} {R : Nat → Nat} {S : Nat → Bool} {W : Nat → Option Sp} {O : Own} (h : InvS n lo hi L R S W O) (r pg : Int) (e : Ent) :
    ∃ (L' : List Int) (R' : Nat → Nat) (O' : Own), mapA n (partsS lo hi T) L R S r pg e.1 e.2.1 e.2.2.1 e.2.2.2 = (mapErr n W (leftS lo hi R) r pg e, L', R') ∧
      (mapErr n W (leftS lo hi R) r pg e = 0 → InvS n lo hi L' R' S (putW W r pg e) O' ∧ leftS lo hi R' + needs W r pg = leftS lo hi R) ∧
      (mapErr n W (leftS lo hi R) r pg e ≠ 0 → InvS n lo hi L' R' S W O' ∧ R' = R) ∧ DataK n L R O L' R' O' := by
  by_cases h0 : askErr W r pg (fitV n e) = 0
  · obtain ⟨k, p, F, rfl, rfl, hp, hw, hfit, hF⟩ := askErr_zero h0
    have he := (fitV_iff n e).1 hfit
    have hmp : mpE n L S (k : Int) (p : Int) e.1 e.2.1 e.2.2.1 e.2.2.2 = unmE n L (k : Int) (p : Int) := by
      unfold mpE
      rw [ask5S h, if_pos h0]
    have hme : mapErr n W (leftS lo hi R) (k : Int) (p : Int) e = if (F p).1 = true then 5 else if hasB F (p / 32) = false ∧ leftS lo hi R = 0 then 3 else 0 := by
      unfold mapErr
      rw [if_pos h0, hF]; simp
    have hpw : putW W (k : Int) (p : Int) e = updW W k (some (updF F p e)) := by unfold putW; rw [hF]; simp
    have hnd : needs W (k : Int) (p : Int) = if hasB F (p / 32) = true then 0 else 1 := by unfold needs; rw [hF]; simp
    rw [hme, hpw, hnd]
    have hu : unmE n L (k : Int) (p : Int) = if (F p).1 = true then 5 else 0 := by unfold unmE; rw [h.find2 hw p hp]
    by_cases hfp : (F p).1 = true
    · rw [if_pos hfp]
      refine ⟨L, R, O, ?_, fun hh => absurd hh (by decide), fun _ => ⟨h, rfl⟩, DataK.refl _ _ _ _⟩
      unfold mapA
      rw [hmp, hu, if_pos hfp, if_neg (by decide)]
    · rw [if_neg hfp]
      have hz : F p = z0 := by
        rcases h.fit k F p hw with hz | hf
        · exact hz
        · exact absurd hf.1 hfp
      rcases h.find hw p hp with ⟨hh, g, hg, hog, hent, hfd⟩ | ⟨hh, _, hfd⟩
      · rw [if_neg (by rw [hh]; simp)]
        refine ⟨putT L g (p % 32) e, R, O, ?_, fun _ => ⟨h.page hw hp hg hog hent hh (Or.inr he) (hasB_put F p e he.1), by rw [if_pos hh]; rfl⟩, fun hne => absurd rfl hne, DataK.put h.len (by have := h.nm; omega) (by rw [hog]; rfl)⟩
        unfold mapA
        rw [hmp, hu, if_neg hfp, if_pos rfl, hfd, if_pos rfl, pg_mod, putI_nat]
      · by_cases hl : leftS lo hi R = 0
        · rw [if_pos ⟨hh, hl⟩]
          obtain ⟨a, b, c⟩ := allocS_no T hl L
          refine ⟨L, R, O, ?_, fun hx => absurd hx (by decide), fun _ => ⟨h, rfl⟩, DataK.refl _ _ _ _⟩
          unfold mapA
          rw [hmp, hu, if_neg hfp, if_pos rfl, hfd, if_neg (by decide), a, if_neg (by decide)]
        · rw [if_neg (fun hx => hl hx.2)]
          obtain ⟨x, hx, hr0, a, b, c, d⟩ := allocS_yes T hl L
          refine ⟨_, _, _, ?_, fun _ => ⟨h.fresh hw hp hx hr0 hh he, by rw [if_neg (by rw [hh]; decide)]; exact d⟩, fun hne => absurd rfl hne, ?_⟩
          · unfold mapA
            rw [hmp, hu, if_neg hfp, if_pos rfl, hfd, if_neg (by decide), a, if_pos rfl, b, c, pg_mod, pg_div]
            simp only [putI_nat]
          · have hn := h.nm
            have ho := h.free hr0
            obtain ⟨hrm, hor⟩ := h.root k F hw
            have hkx : k ≠ x := by rintro rfl; rw [hor] at ho; cases ho
            have k1 := DataK.take h.len (show x < n by omega) hr0 ho (k, some (p / 32))
            have l1 : (putRow L x zeros).length = n * 32 := putRow_length h.len (by omega) (by decide)
            refine (k1.trans (DataK.put (g := k) l1 (by omega) ?_)).trans (DataK.put (by rw [putT_length]; exact l1) (by omega) ?_)
            · rw [updW_other _ _ _ _ hkx, hor]; rfl
            · rw [updW_same]; rfl
  · have hme : mapErr n W (leftS lo hi R) r pg e = askErr W r pg (fitV n e) := by unfold mapErr; rw [if_neg h0]
    rw [hme]
    refine ⟨L, R, O, ?_, fun hh => absurd hh h0, fun _ => ⟨h, rfl⟩, DataK.refl _ _ _ _⟩
    have hmp : mpE n L S r pg e.1 e.2.1 e.2.2.1 e.2.2.2 = askErr W r pg (fitV n e) := by unfold mpE; rw [ask5S h, if_neg h0]
    unfold mapA
    rw [hmp, if_neg h0]
theorem InvS.setS {n lo hi : Nat} {L : List Int} {R : Nat → Nat} {S : Nat → Bool} {W : Nat → Option Sp} {O : Own} (h : InvS n lo hi L R S W O) (r pg : Int) (e : Ent) :
    setE n L S r pg e.1 e.2.1 e.2.2.1 e.2.2.2 = setErr n W r pg e ∧
    (setErr n W r pg e = 0 → InvS n lo hi (setL n L S r pg e.1 e.2.1 e.2.2.1 e.2.2.2) R S (putW W r pg e) O) ∧
    (setErr n W r pg e ≠ 0 → setL n L S r pg e.1 e.2.1 e.2.2.1 e.2.2.2 = L) ∧ DataK n L R O (setL n L S r pg e.1 e.2.1 e.2.2.1 e.2.2.2) R O := by
  suffices hs : setE n L S r pg e.1 e.2.1 e.2.2.1 e.2.2.2 = setErr n W r pg e ∧ (setErr n W r pg e = 0 → InvS n lo hi (setL n L S r pg e.1 e.2.1 e.2.2.1 e.2.2.2) R S (putW W r pg e) O ∧ DataK n L R O (setL n L S r pg e.1 e.2.1 e.2.2.1 e.2.2.2) R O) ∧ (setErr n W r pg e ≠ 0 → setL n L S r pg e.1 e.2.1 e.2.2.1 e.2.2.2 = L) by
    refine ⟨hs.1, fun h0 => (hs.2.1 h0).1, hs.2.2, ?_⟩
    by_cases h0 : setErr n W r pg e = 0
    · exact (hs.2.1 h0).2
    · rw [hs.2.2 h0]; exact DataK.refl _ _ _ _
  by_cases h0 : askErr W r pg (fitV n e) = 0
  · obtain ⟨k, p, F, rfl, rfl, hp, hw, hfit, hF⟩ := askErr_zero h0
    have he := (fitV_iff n e).1 hfit
    have hse : setE n L S (k : Int) (p : Int) e.1 e.2.1 e.2.2.1 e.2.2.2 = mapE n L (k : Int) (p : Int) := by unfold setE; rw [ask5S h, if_pos h0]
    have hme : setErr n W (k : Int) (p : Int) e = if (F p).1 = true then 0 else 4 := by unfold setErr; rw [if_pos h0, hF]; simp
    have hu : mapE n L (k : Int) (p : Int) = if (F p).1 = true then 0 else 4 := by unfold mapE; rw [h.find2 hw p hp]
    have hpw : putW W (k : Int) (p : Int) e = updW W k (some (updF F p e)) := by unfold putW; rw [hF]; simp
    refine ⟨by rw [hse, hu, hme], fun hh => ?_, fun hne => ?_⟩
    · rw [hme] at hh
      have hfp : (F p).1 = true := by
        by_cases hx : (F p).1 = true
        · exact hx
        · rw [if_neg hx] at hh; cases hh
      rcases h.find hw p hp with ⟨hh, g, hg, hog, hent, hfd⟩ | ⟨_, hz, _⟩
      · unfold setL
        rw [hse, hu, if_pos hfp, if_pos rfl, hfd, hpw, pg_mod, putI_nat]
        exact ⟨h.page hw hp hg hog hent hh (Or.inr he) (hasB_put F p e he.1), DataK.put h.len (by have := h.nm; omega) (by rw [hog]; rfl)⟩
      · rw [hz] at hfp; cases hfp
    · unfold setL
      rw [hse, hu, ← hme, if_neg hne]
  · have hme : setErr n W r pg e = askErr W r pg (fitV n e) := by unfold setErr; rw [if_neg h0]
    have hse : setE n L S r pg e.1 e.2.1 e.2.2.1 e.2.2.2 = askErr W r pg (fitV n e) := by unfold setE; rw [ask5S h, if_neg h0]
    refine ⟨by rw [hse, hme], fun hh => absurd (hme ▸ hh) h0, fun _ => ?_⟩
    unfold setL
    rw [hse, if_neg h0]
theorem unmAsk_eqS {n lo hi : Nat} {L : List Int} {R : Nat → Nat} {S : Nat → Bool} {W : Nat → Option Sp} {O : Own} (h : InvS n lo hi L R S W O) (r pg : Int) : unmAsk n L S r pg = unmErr W r pg := by
  unfold unmAsk unmErr
  rw [ask4S h]
  by_cases h0 : askErr W r pg true = 0
  · obtain ⟨k, p, F, rfl, rfl, hp, hw, _, hF⟩ := askErr_zero h0
    rw [if_pos h0, if_pos h0, hF]
    unfold mapE
    rw [h.find2 hw p hp]; simp
  · rw [if_neg h0, if_neg h0]
/-- Query. -/
theorem InvS.qryS {n lo hi : Nat} {L : List Int} {R : Nat → Nat} {S : Nat → Bool} {W : Nat → Option Sp} {O : Own} (h : InvS n lo hi L R S W O) (r pg : Int) : qryA n L S r pg = if unmErr W r pg = 0 then (entW W r pg, true) else (z0, false) := by
  unfold qryA
  rw [unmAsk_eqS h]
  by_cases h0 : unmErr W r pg = 0
  · obtain ⟨k, p, F, rfl, rfl, hp, hw, hF, hfp⟩ := unmErr_zero h0
    rw [if_pos h0, if_pos h0, h.find2 hw p hp]
    unfold entW; rw [hF]; simp
  · rw [if_neg h0, if_neg h0]
theorem InvS.thereRoot {n lo hi : Nat} {L : List Int} {R : Nat → Nat} {S : Nat → Bool} {W : Nat → Option Sp} {O : Own} (h : InvS n lo hi L R S W O) {r : Nat} {F : Sp} (hr : W r = some F) :
    ∀ k, k ≤ 32 → (thereN n L (r : Int) k).length = ((List.range k).filter (hasB F)).length ∧ pagesL n L (thereN n L (r : Int) k) = segN F 0 (32 * k)
  | 0, _ => ⟨rfl, rfl⟩
  | k + 1, hk => by
    obtain ⟨h1, h2⟩ := h.thereRoot hr k (by omega)
    rw [List.range_succ, List.filter_append, List.length_append, show 32 * (k + 1) = 32 * k + 32 by omega, segN_add, Nat.zero_add, ← h2, ← h1]
    cases hh : hasB F k with
    | true =>
      obtain ⟨g, hg, hog, e1, e2⟩ := h.yes r F k hr (by omega) hh
      have ht : ∀ j, j ≤ 32 → inTab (k : Int) (thereN n L (g : Int) j) = segN F (32 * k) j := by
        intro j
        induction j with
        | zero => intro _; rfl
        | succ j ih =>
          intro hj
          have e3 := getE_some (e2 j (by omega))
          rw [segN, ← ih (by omega)]
          cases hp : (F (32 * k + j)).1 with
          | true =>
            rw [thereN_yes e3 hp, inTab_snoc, if_pos rfl]
            simp only [List.append_cancel_left_eq, List.cons.injEq, Prod.mk.injEq, and_true]
            omega
          | false =>
            rw [thereN_no (by rw [e3]; exact hp)]; simp
      rw [thereN_yes (getE_some e1) rfl, pagesL_snoc, List.length_append]
      refine ⟨by simp [hh], ?_⟩
      rw [← ht 32 (by omega)]; rfl
    | false =>
      have e1 := h.no r F k hr (by omega) hh
      rw [thereN_no (by rw [getE_some e1]; rfl), segN_none F (32 * k) 32 (fun j hj => by
        cases hx : (F (32 * k + j)).1 with
        | false => rfl
        | true => have := (hasB_iff F k).2 ⟨j, hj, hx⟩; rw [hh] at this; cases this)]
      simp [hh]
theorem InvS.tabS {n lo hi : Nat} {L : List Int} {R : Nat → Nat} {S : Nat → Bool} {W : Nat → Option Sp} {O : Own} (h : InvS n lo hi L R S W O) (r : Int) : tabA n L S r = tabW W r := by
  unfold tabA tabW
  rw [first2]
  unfold openE
  rw [h.isSp_eq]
  cases hs : spOf W r with
  | none => simp
  | some F =>
    obtain ⟨k, rfl, hw⟩ := spOf_some hs
    simp only [Option.isSome_some, if_true]
    unfold tabF thereL
    rw [(h.thereRoot hw 32 (by omega)).1]
theorem InvS.allS {n lo hi : Nat} {L : List Int} {R : Nat → Nat} {S : Nat → Bool} {W : Nat → Option Sp} {O : Own} (h : InvS n lo hi L R S W O) (r : Int) : allA n L S r = allW W r := by
  unfold allA allW
  rw [first2]
  unfold openE
  rw [h.isSp_eq]
  cases hs : spOf W r with
  | none => simp
  | some F =>
    obtain ⟨k, rfl, hw⟩ := spOf_some hs
    simp only [Option.isSome_some, if_true]
    unfold allL thereL allF
    rw [(h.thereRoot hw 32 (by omega)).2]
end Go.Proofs.YtkenipanpimolaaGreatDoor

/- A manager of a partition's tables in memory, its spaces as functions of pages, and frames beside them that are no table's, with their words: what each call answers, and leaves. Condition: the listed tables read as laid. -/
namespace Go.Proofs.YtkenipanpimolaaGreatDoor
open Go.RowKit Go.Maps
set_option maxRecDepth 100000

theorem InvS.other {n lo hi : Nat} {L L' : List Int} {R R' : Nat → Nat} {S : Nat → Bool} {W : Nat → Option Sp} {O : Own} (h : InvS n lo hi L R S W O) (hl : L'.length = n * 32) (hR : ∀ f, (O f).isSome = true → R' f = R f) (hL : ∀ f q, (O f).isSome = true → q < 32 → L'.getD (f * 32 + q) 0 = L.getD (f * 32 + q) 0) : InvS n lo hi L' R' S W O := by
  have hE : ∀ f q : Nat, (O f).isSome = true → q < 32 → entAt n L' (f : Int) (q : Int) = entAt n L (f : Int) (q : Int) := fun f q hf hq => by
    have := (h.low f hf).2
    have := h.nm
    rw [entAt_nat (by omega) hq, entAt_nat (by omega) hq, hL f q hf hq]
  refine ⟨hl, h.nm, h.top, h.sp, h.root, fun r F i hr hi hh => ?_, fun r F i hr hi hh => ?_, h.fit, fun f hf => (hR f hf).trans (h.held f hf), h.low⟩
  · obtain ⟨g, hg, hog, h1, h2⟩ := h.yes r F i hr hi hh
    have hor := (h.root r F hr).2
    exact ⟨g, hg, hog, by rw [hE r i (by rw [hor]; rfl) hi]; exact h1, fun j hj => by rw [hE g j (by rw [hog]; rfl) hj]; exact h2 j hj⟩
  · have hor := (h.root r F hr).2
    rw [hE r i (by rw [hor]; rfl) hi]
    exact h.no r F i hr hi hh

/-- The manager, its spaces, how many frames are left; how often each frame is held that is no table's, and its words. -/
structure SysS (W0 w : World) (tb sb : Nat) (X : PIx) (n lo hi c : Nat) (W : Nat → Option Sp) (Q : Nat → Nat) (V : Nat → Nat → Int) : Prop where
  ex : ∃ L R S O T, Mg W0 w tb sb X L R S ∧ InvS n lo hi L R S W O ∧ leftS lo hi R = c ∧ X.P = partsS lo hi T ∧ (∀ f, Q f = QF R O f) ∧ (∀ f q, f < n → q < 32 → Q f ≠ 0 → V f q = L.getD (f * 32 + q) 0) ∧ ∀ f, Q f ≠ 0 → lo ≤ f ∧ f < hi
  hn : X.n = n
/-- What a call leaves. -/
structure GoneS (W0 w w' : World) (tb sb : Nat) (X : PIx) (n lo hi c : Nat) (W : Nat → Option Sp) (Q : Nat → Nat) (V : Nat → Nat → Int) : Prop where
  st : SysS W0 w' tb sb X n lo hi c W Q V
  only : Only w w' (mgB X sb)
section
variable {W0 w : World} {tb sb n lo hi c : Nat} {X : PIx} {W : Nat → Option Sp} {Q : Nat → Nat} {V : Nat → Nat → Int}
theorem SysS.kept {w' : World} (h : SysS W0 w tb sb X n lo hi c W Q V) {B : Nat → Prop} (ho : Only w w' B) (hB : ∀ k, X.all k ∨ k = sb ∨ k = tb → ¬ B k) (hb : Below W0.heap.size W0 w') : SysS W0 w' tb sb X n lo hi c W Q V := by
  obtain ⟨L, R, S, O, T, h1, r⟩ := h.ex
  refine ⟨⟨L, R, S, O, T, ⟨⟨h1.own.st.kept ho (fun k hk => hB k (Or.inl hk)), hb, h1.own.new, h1.own.laid⟩, h1.lw, h1.wd, ho.kept h1.box (hB _ (Or.inr (Or.inr rfl))), h1.spc.same (ho.block _ h1.spc.lt (hB _ (Or.inr (Or.inl rfl)))), h1.nt, h1.ns, h1.ne, h1.low⟩, r⟩, h.hn⟩
theorem SysS.step {w' : World} (h : SysS W0 w tb sb X n lo hi c W Q V) (hb : Below w.heap.size w w') : SysS W0 w' tb sb X n lo hi c W Q V := by
  obtain ⟨L, R, S, O, T, h1, r⟩ := h.ex
  exact ⟨⟨L, R, S, O, T, h1.step hb, r⟩, h.hn⟩
theorem SysS.below (h : SysS W0 w tb sb X n lo hi c W Q V) : Below W0.heap.size W0 w := by
  obtain ⟨L, R, S, O, T, h1, r⟩ := h.ex
  exact h1.own.below
theorem SysS.laidW (h : SysS W0 w tb sb X n lo hi c W Q V) : LaidW w := by
  obtain ⟨L, R, S, O, T, h1, r⟩ := h.ex
  exact h1.tabW
/-- A block of another kind is none that calls change. -/
theorem SysS.other {cs : Array Value} {t : TypeId} {z : Nat × Nat} {b : Nat} (h : SysS W0 w tb sb X n lo hi c W Q V) (hb : w.heap[b]? = some (.cells cs t z)) (ht : t ≠ 230 ∧ t ≠ 195 ∧ t ≠ 83 ∧ t ≠ 78 ∧ t ≠ 142) : ¬ mgB X sb b := fun hk => by
  obtain ⟨L, R, S, O, T, h1, r⟩ := h.ex
  rcases hk with hk | rfl
  · exact h1.own.st.other hb ht (Or.inl hk)
  · obtain ⟨es, ck, hm⟩ := h1.spc.isMap
    rw [hm] at hb; cases hb
/-- Which blocks are the manager's. -/
theorem SysS.kind (h : SysS W0 w tb sb X n lo hi c W Q V) (k : Nat) (hk : X.all k ∨ k = sb ∨ k = tb) : W0.heap.size ≤ k ∧ ∃ o, w.heap[k]? = some o ∧ ((kindOf o = none ∧ (k = X.mb ∨ k = sb)) ∨ kindOf o = some 230 ∨ kindOf o = some 195 ∨ kindOf o = some 83 ∨ kindOf o = some 78 ∨ kindOf o = some 142 ∨ kindOf o = some 153) := by
  obtain ⟨L, R, S, O, T, h1, r⟩ := h.ex
  rcases hk with hk | rfl | rfl
  · refine ⟨h1.own.new k hk, ?_⟩
    obtain ⟨o, ho, hx⟩ := h1.own.st.kind k hk
    refine ⟨o, ho, ?_⟩
    rcases hx with e | e | e | e | e | e
    · rcases hk with (e1 | e1 | e1) | e1 | e1 | e1
      · rw [e1, h1.own.st.mem.row] at ho; cases ho; cases e
      · exact Or.inl ⟨e, Or.inl e1⟩
      · obtain ⟨t, ht, e2⟩ := List.mem_map.1 e1
        obtain ⟨i, hi, e3⟩ := List.getElem_of_mem ht
        have := (h1.own.st.sets i hi).box
        rw [List.getD_eq_getElem?_getD, List.getElem?_eq_getElem hi, Option.getD_some, e3, e2, ho] at this
        cases this; cases e
      · rw [e1, h1.own.st.box] at ho; cases ho; cases e
      · rw [e1, h1.own.st.mem.box] at ho; cases ho; cases e
      · obtain ⟨cs, hcs⟩ := own_block h1.own.st.parts e1
        rw [hcs] at ho; cases ho; cases e
    · exact Or.inr (Or.inl e)
    · exact Or.inr (Or.inr (Or.inl e))
    · exact Or.inr (Or.inr (Or.inr (Or.inl e)))
    · exact Or.inr (Or.inr (Or.inr (Or.inr (Or.inl e))))
    · exact Or.inr (Or.inr (Or.inr (Or.inr (Or.inr (Or.inl e)))))
  · obtain ⟨es, ck, hm⟩ := h1.spc.isMap
    exact ⟨h1.ns, _, hm, Or.inl ⟨rfl, Or.inr rfl⟩⟩
  · exact ⟨h1.nt, _, h1.box, Or.inr (Or.inr (Or.inr (Or.inr (Or.inr (Or.inr rfl)))))⟩
theorem SysS.facts (h : SysS W0 w tb sb X n lo hi c W Q V) : lo < hi ∧ hi ≤ n ∧ n ≤ 1024 ∧ (∀ f, Q f ≤ 64) ∧ (∀ f, Q f ≠ 0 → lo ≤ f ∧ f < hi) ∧ (∀ f q, q < 32 → Q f ≠ 0 → 0 ≤ V f q ∧ V f q < 4294967296) ∧ (∀ r F p, W r = some F → F p = z0 ∨ fitsE n (F p)) ∧ (∀ r, (W r).isSome = true → lo ≤ r ∧ r < hi ∧ Q r = 0) := by
  obtain ⟨L, R, S, O, T, h1, h2, h3, h4, h5, h6, h7⟩ := h.ex
  refine ⟨h2.nm.1, h2.nm.2, h2.top, fun f => ?_, h7, fun f q hq h0 => ?_, h2.fit, fun r hr => ?_⟩
  · rw [h5]; unfold QF
    split
    · omega
    · exact h1.own.st.fit.most f
  · rw [h6 f q (by have := h7 f h0; have := h2.nm; omega) hq h0]; exact h1.wd _
  · obtain ⟨F, hF⟩ := Option.isSome_iff_exists.1 hr
    obtain ⟨k1, k2⟩ := h2.root r F hF
    refine ⟨k1.1, k1.2, ?_⟩
    rw [h5]; unfold QF; rw [k2]; rfl
/-- What a call on tables leaves. -/
theorem SysS.tabs {L L' : List Int} {R R' : Nat → Nat} {S' : Nat → Bool} {O O' : Own} {T : List (Nat × Nat)} {w' : World} {W' : Nat → Option Sp} {c' : Nat} (hn : X.n = n) (hP : X.P = partsS lo hi T) (hQ : ∀ f, Q f = QF R O f) (hV : ∀ f q, f < n → q < 32 → Q f ≠ 0 → V f q = L.getD (f * 32 + q) 0) (hr : ∀ f, Q f ≠ 0 → lo ≤ f ∧ f < hi) (ht : Went W0 w w' tb sb X L' R' S') (hi' : InvS n lo hi L' R' S' W' O') (hl : leftS lo hi R' = c') (hd : DataK n L R O L' R' O') : GoneS W0 w w' tb sb X n lo hi c' W' Q V :=
  ⟨⟨⟨L', R', S', O', T, ht.st, hi', hl, hP, fun f => (hQ f).trans (hd.ref f).symm, fun f q hf hq h0 => by rw [hV f q hf hq h0, hd.word f q hf hq (by rw [← hQ]; exact h0)], hr⟩, hn⟩, ht.only⟩
def OpenPostS (W0 w : World) (tb sb : Nat) (X : PIx) (n lo hi c : Nat) (W : Nat → Option Sp) (Q : Nat → Nat) (V : Nat → Nat → Int) (e : Ending) (w' : World) : Prop :=
  (c = 0 ∧ e = .returned (.tuple #[.int .i64 0, .int .i64 3]) ∧ GoneS W0 w w' tb sb X n lo hi c W Q V) ∨
  (∃ x : Nat, (lo ≤ x ∧ x < hi) ∧ W x = none ∧ 1 ≤ c ∧ e = .returned (.tuple #[.int .i64 (x : Int), .int .i64 0]) ∧ GoneS W0 w w' tb sb X n lo hi (c - 1) (updW W x (some fun _ => z0)) Q V)
theorem SysS.open_ (h : SysS W0 w tb sb X n lo hi c W Q V) : Calls Tryz.prog 79 #[.pointer (some ⟨tb, 0, none⟩)] w (OpenPostS W0 w tb sb X n lo hi c W Q V) := by
  obtain ⟨L, R, S, O, T, k1, k2, k3, k4, k5, k6, k7⟩ := h.ex
  rcases k2.openS T with ⟨h0, ho⟩ | ⟨x, L', R', O', hx, hw, ho, hi', hl, hd⟩
  · exact (k1.open_ k4 ho).mono fun e w' ⟨he, ht⟩ => Or.inl ⟨by omega, he, SysS.tabs h.hn k4 k5 k6 k7 ht k2 k3 (DataK.refl _ _ _ _)⟩
  · exact (k1.open_ k4 ho).mono fun e w' ⟨he, ht⟩ => Or.inr ⟨x, hx, hw, by omega, he, SysS.tabs h.hn k4 k5 k6 k7 ht hi' (by omega) hd⟩
theorem SysS.map (h : SysS W0 w tb sb X n lo hi c W Q V) (r pg : Int) (p x k : Bool) (g : Int) (hr : I64 r) (hp : I64 pg) :
    Calls Tryz.prog 99 #[.pointer (some ⟨tb, 0, none⟩), .int .i64 r, .int .i64 pg, ent p x k g] w fun e w' => e = .returned (.int .i64 (mapErr n W c r pg (p, x, k, g))) ∧ GoneS W0 w w' tb sb X n lo hi (mapC n c W r pg (p, x, k, g)) (mapW n c W r pg (p, x, k, g)) Q V := by
  obtain ⟨L, R, S, O, T, k1, k2, rfl, k4, k5, k6, k7⟩ := h.ex
  obtain ⟨L', R', O', ho, y1, y2, y3⟩ := k2.mapS T r pg (p, x, k, g)
  refine (k1.map_ h.hn k4 hr hp ho).mono fun e w' ⟨he, ht⟩ => ⟨he, ?_⟩
  unfold mapC mapW
  by_cases h0 : mapErr n W (leftS lo hi R) r pg (p, x, k, g) = 0
  · obtain ⟨i1, i2⟩ := y1 h0
    rw [if_pos h0, if_pos h0]
    exact SysS.tabs h.hn k4 k5 k6 k7 ht i1 (by omega) y3
  · obtain ⟨i1, rfl⟩ := y2 h0
    rw [if_neg h0, if_neg h0]
    exact SysS.tabs h.hn k4 k5 k6 k7 ht i1 rfl y3
theorem SysS.set (h : SysS W0 w tb sb X n lo hi c W Q V) (r pg : Int) (p x k : Bool) (g : Int) (hr : I64 r) (hp : I64 pg) :
    Calls Tryz.prog 100 #[.pointer (some ⟨tb, 0, none⟩), .int .i64 r, .int .i64 pg, ent p x k g] w fun e w' => e = .returned (.int .i64 (setErr n W r pg (p, x, k, g))) ∧ GoneS W0 w w' tb sb X n lo hi c (setW n W r pg (p, x, k, g)) Q V := by
  obtain ⟨L, R, S, O, T, k1, k2, k3, k4, k5, k6, k7⟩ := h.ex
  obtain ⟨ho, y1, y2, y3⟩ := k2.setS r pg (p, x, k, g)
  refine (k1.set_ h.hn hr hp ho rfl).mono fun e w' ⟨he, ht⟩ => ⟨he, ?_⟩
  unfold setW
  by_cases h0 : setErr n W r pg (p, x, k, g) = 0
  · rw [if_pos h0]
    exact SysS.tabs h.hn k4 k5 k6 k7 ht (y1 h0) k3 y3
  · rw [if_neg h0]
    rw [y2 h0] at ht y3
    exact SysS.tabs h.hn k4 k5 k6 k7 ht k2 k3 y3
theorem SysS.query (h : SysS W0 w tb sb X n lo hi c W Q V) (r pg : Int) (hr : I64 r) (hp : I64 pg) {p x k : Bool} {g : Int} (he : unmE' W r pg = (p, x, k, g)) :
    Calls Tryz.prog 95 #[.pointer (some ⟨tb, 0, none⟩), .int .i64 r, .int .i64 pg] w fun e w' => e = .returned (.tuple #[ent p x k g, .bool (decide (unmErr W r pg = 0))]) ∧ Below w.heap.size w w' := by
  obtain ⟨L, R, S, O, T, k1, k2, _⟩ := h.ex
  refine k1.query_ h.hn hr hp ?_
  rw [k2.qryS, ← he]
  unfold unmE'
  by_cases h0 : unmErr W r pg = 0
  · simp [h0]
  · simp [h0]
theorem SysS.tables (h : SysS W0 w tb sb X n lo hi c W Q V) (r : Int) (hr : I64 r) :
    Calls Tryz.prog 94 #[.pointer (some ⟨tb, 0, none⟩), .int .i64 r] w fun e w' => e = .returned (.int .i64 (tabW W r : Int)) ∧ Below w.heap.size w w' := by
  obtain ⟨L, R, S, O, T, k1, k2, _⟩ := h.ex
  refine k1.tables_ h.hn hr ?_
  rw [k2.tabS]
theorem SysS.all (h : SysS W0 w tb sb X n lo hi c W Q V) (r : Int) (hr : I64 r) :
    Calls Tryz.prog 96 #[.pointer (some ⟨tb, 0, none⟩), .int .i64 r] w (AllMPost w (allW W r)) := by
  obtain ⟨L, R, S, O, T, k1, k2, _⟩ := h.ex
  have := allm_ok k1 r hr
  rw [h.hn, k2.allS] at this
  exact this
theorem SysS.left (h : SysS W0 w tb sb X n lo hi c W Q V) : Calls Tryz.prog 36 #[.pointer (some ⟨X.pb, 0, none⟩), .int .i64 0] w fun e w' => e = .returned (.int .i64 (c : Int)) ∧ Below w.heap.size w w' := by
  obtain ⟨L, R, S, O, T, k1, k2, rfl, k4, _⟩ := h.ex
  refine left_is (X := X) ?_ k1.own.st
  rw [k4]; exact leftS_eq T lo hi R
/-- A frame that is no table's. -/
theorem QF_ne {R : Nat → Nat} {O : Own} {f : Nat} (h : QF R O f ≠ 0) : O f = none ∧ QF R O f = R f := by
  unfold QF at h ⊢
  cases ho : O f with
  | none => exact ⟨rfl, rfl⟩
  | some v => rw [ho] at h; exact absurd rfl h
theorem QF_upd {R : Nat → Nat} {O : Own} {f v : Nat} (h : O f = none) (g : Nat) : QF (upd R f v) O g = upd (QF R O) f v g := by
  unfold QF
  by_cases e : g = f
  · subst e; rw [h, upd_same, upd_same]; rfl
  · rw [upd_other _ _ _ _ e, upd_other _ _ _ _ e]
theorem SysS.refs (h : SysS W0 w tb sb X n lo hi c W Q V) (f : Nat) (h0 : Q f ≠ 0) : Calls Tryz.prog 149 #[.pointer (some ⟨X.pb, 0, none⟩), .int .i64 (f : Int)] w fun e w' => e = .returned (.int .i64 (Q f : Int)) ∧ w = w' := by
  obtain ⟨L, R, S, O, T, k1, k2, rfl, k4, k5, k6, k7⟩ := h.ex
  have := k7 f h0
  have := k2.nm
  have := k2.top
  refine refs_is ?_ k1.own.st (by unfold I64; omega)
  rw [refI_nat, k5 f]
  rw [k5] at h0
  rw [(QF_ne h0).2]
def allocV (V : Nat → Nat → Int) (x : Nat) : Nat → Nat → Int := fun f q => if f = x then 0 else V f q
def AllocPostS (W0 w : World) (tb sb : Nat) (X : PIx) (n lo hi c : Nat) (W : Nat → Option Sp) (Q : Nat → Nat) (V : Nat → Nat → Int) (e : Ending) (w' : World) : Prop :=
  ∃ x : Nat, (lo ≤ x ∧ x < hi) ∧ Q x = 0 ∧ W x = none ∧ e = .returned (.tuple #[.int .i64 (x : Int), .int .i64 0]) ∧ GoneS W0 w w' tb sb X n lo hi (c - 1) W (upd Q x 1) (allocV V x)
theorem SysS.alloc (h : SysS W0 w tb sb X n lo hi c W Q V) (hc : c ≠ 0) : Calls Tryz.prog 120 #[.pointer (some ⟨X.pb, 0, none⟩), .int .i64 0] w (AllocPostS W0 w tb sb X n lo hi c W Q V) := by
  obtain ⟨L, R, S, O, T, k1, k2, rfl, k4, k5, k6, k7⟩ := h.ex
  obtain ⟨x, hx, hr0, a, b, cc, d⟩ := allocS_yes T hc L
  have hn := k2.nm
  have hO := k2.free hr0
  rw [← k4] at a b cc
  have hw := words_alloc k1.own.st.fit k1.own.st.mem.len k1.wd
  rw [b] at hw
  refine (alloc_is a b cc k1.own.st k1.own.table).mono fun e w' ⟨he, hm⟩ => ?_
  have ht := k1.move hm hw
  have hxn : ∀ f, (O f).isSome = true → f ≠ x := fun f hf e => by rw [e, hO] at hf; cases hf
  refine ⟨x, hx, by rw [k5]; unfold QF; rw [hO, hr0]; rfl, ?_, he, ⟨⟨_, _, S, O, T, ht.st, k2.other (putRow_length k2.len (by omega) (by decide)) (fun f hf => upd_other _ _ _ _ (hxn f hf)) (fun f q hf hq => ?_), by omega, k4, fun f => ?_, fun f q hf hq h0 => ?_, fun f h0 => ?_⟩, h.hn⟩, ht.only⟩
  · cases hw' : W x with
    | none => rfl
    | some F => have := (k2.root x F hw').2; rw [hO] at this; cases this
  · have := hxn f hf
    rw [getD_row _ _ _ (by rw [k2.len]; omega), if_neg (by omega)]
  · rw [QF_upd hO]
    unfold upd
    split
    · rfl
    · exact k5 f
  · unfold allocV
    by_cases e : f = x
    · subst e
      rw [if_pos rfl, getD_row _ _ _ (by rw [k2.len]; omega), if_pos ⟨by omega, by omega⟩]
    · rw [upd_other _ _ _ _ e] at h0
      rw [if_neg e, getD_row _ _ _ (by rw [k2.len]; omega), if_neg (by omega), k6 f q hf hq h0]
  · by_cases e : f = x
    · subst e; exact hx
    · rw [upd_other _ _ _ _ e] at h0; exact k7 f h0
theorem SysS.share (h : SysS W0 w tb sb X n lo hi c W Q V) (f : Nat) (h0 : Q f ≠ 0) (h1 : Q f < 64) : Calls Tryz.prog 101 #[.pointer (some ⟨X.pb, 0, none⟩), .int .i64 (f : Int)] w fun e w' => e = .returned (.int .i64 0) ∧ GoneS W0 w w' tb sb X n lo hi c W (upd Q f (Q f + 1)) V := by
  obtain ⟨L, R, S, O, T, k1, k2, rfl, k4, k5, k6, k7⟩ := h.ex
  have hf := k7 f h0
  have hn := k2.nm
  have ht := k2.top
  have h0' := h0
  rw [k5] at h0'
  obtain ⟨hO, hQ⟩ := QF_ne h0'
  have hR : R f ≠ 0 := by rw [← hQ]; exact h0'
  have hQR : Q f = R f := (k5 f).trans hQ
  have hE : shareE X.P R (f : Int) = 0 := by
    unfold shareE; rw [k4, heldS T hf hR, if_pos rfl, refI_nat, if_neg (by omega)]
  have hS : shareR X.P R (f : Int) = upd R f (R f + 1) := by unfold shareR; rw [if_pos hE, Int.toNat_natCast]
  refine (share_is hE hS k1.own.st (by unfold I64; omega)).mono fun e w' ⟨he, hm⟩ => ⟨he, ?_⟩
  have ht := k1.move hm k1.wd
  have hxn : ∀ g, (O g).isSome = true → g ≠ f := fun g hg e => by rw [e, hO] at hg; cases hg
  refine ⟨⟨⟨L, _, S, O, T, ht.st, k2.other k2.len (fun g hg => upd_other _ _ _ _ (hxn g hg)) (fun _ _ _ _ => rfl), ?_, k4, fun g => ?_, fun g q hg hq h2 => ?_, fun g h2 => ?_⟩, h.hn⟩, ht.only⟩
  · unfold leftS; rw [freeL_held _ _ _ _ hR (by omega)]
  · rw [QF_upd hO, hQR]
    unfold upd
    split
    · rfl
    · exact k5 g
  · by_cases e : g = f
    · subst e; exact k6 g q hg hq h0
    · rw [upd_other _ _ _ _ e] at h2; exact k6 g q hg hq h2
  · by_cases e : g = f
    · subst e; exact hf
    · rw [upd_other _ _ _ _ e] at h2; exact k7 g h2
theorem SysS.free (h : SysS W0 w tb sb X n lo hi c W Q V) (f : Nat) (h0 : Q f ≠ 0) : Calls Tryz.prog 177 #[.pointer (some ⟨X.pb, 0, none⟩), .int .i64 (f : Int)] w fun e w' => e = .returned (.int .i64 0) ∧ GoneS W0 w w' tb sb X n lo hi (if Q f = 1 then c + 1 else c) W (upd Q f (Q f - 1)) V := by
  obtain ⟨L, R, S, O, T, k1, k2, rfl, k4, k5, k6, k7⟩ := h.ex
  have hf := k7 f h0
  have hn := k2.nm
  have ht := k2.top
  have h0' := h0
  rw [k5] at h0'
  obtain ⟨hO, hQ⟩ := QF_ne h0'
  have hR : R f ≠ 0 := by rw [← hQ]; exact h0'
  have hQR : Q f = R f := (k5 f).trans hQ
  have hE : heldE X.P R (f : Int) = 0 := by rw [k4, heldS T hf hR]
  have hS : freeR X.P R (f : Int) = upd R f (R f - 1) := by rw [k4, free_S T hf hR]
  refine (free_is hE hS k1.own.st (by unfold I64; omega)).mono fun e w' ⟨he, hm⟩ => ⟨he, ?_⟩
  have ht := k1.move hm k1.wd
  have hxn : ∀ g, (O g).isSome = true → g ≠ f := fun g hg e => by rw [e, hO] at hg; cases hg
  refine ⟨⟨⟨L, _, S, O, T, ht.st, k2.other k2.len (fun g hg => upd_other _ _ _ _ (hxn g hg)) (fun _ _ _ _ => rfl), ?_, k4, fun g => ?_, fun g q hg hq h2 => ?_, fun g h2 => ?_⟩, h.hn⟩, ht.only⟩
  · rw [hQR]
    by_cases e1 : R f = 1
    · rw [if_pos e1, e1]; exact leftS_give hf hR
    · rw [if_neg e1]; unfold leftS; rw [freeL_held _ _ _ _ hR (by omega)]
  · rw [QF_upd hO, hQR]
    unfold upd
    split
    · rfl
    · exact k5 g
  · by_cases e : g = f
    · subst e; exact k6 g q hg hq h0
    · rw [upd_other _ _ _ _ e] at h2; exact k6 g q hg hq h2
  · by_cases e : g = f
    · subst e; exact hf
    · rw [upd_other _ _ _ _ e] at h2; exact k7 g h2
theorem SysS.read (h : SysS W0 w tb sb X n lo hi c W Q V) (f q : Nat) (h0 : Q f ≠ 0) (hq : q < 32) : Calls Tryz.prog 64 #[.pointer (some ⟨X.mp, 0, none⟩), .int .i64 (f : Int), .int .i64 (q : Int)] w fun e w' => e = .returned (.tuple #[.int .u32 (V f q), .int .i64 0]) ∧ Below w.heap.size w w' := by
  obtain ⟨L, R, S, O, T, k1, k2, rfl, k4, k5, k6, k7⟩ := h.ex
  have hf := k7 f h0
  have hn := k2.nm
  rw [k6 f q (by omega) hq h0]
  exact read_ok X.mp X.fb X.n f q L w k1.own.st.mem (by rw [h.hn]; omega) hq
/-- The memory's words change, where no table's frame is. -/
theorem SysS.puts {L L' : List Int} {R : Nat → Nat} {S : Nat → Bool} {O : Own} {T : List (Nat × Nat)} {w' : World} {V' : Nat → Nat → Int} (hn : X.n = n) (k1 : Mg W0 w tb sb X L R S) (k2 : InvS n lo hi L R S W O) (hP : X.P = partsS lo hi T) (hQ : ∀ f, Q f = QF R O f) (hr : ∀ f, Q f ≠ 0 → lo ≤ f ∧ f < hi) (hp : Puts w w' X.mp X.fb X.n L') (hl : L'.length = n * 32) (hw : Words L') (hO : ∀ f q, (O f).isSome = true → q < 32 → L'.getD (f * 32 + q) 0 = L.getD (f * 32 + q) 0) (hV : ∀ f q, f < n → q < 32 → Q f ≠ 0 → V' f q = L'.getD (f * 32 + q) 0) : GoneS W0 w w' tb sb X n lo hi (leftS lo hi R) W Q V' := by
  have hm : Moves w w' X L' R := ⟨(k1.own.st.toG.mem_ hp).toAt k1.own.st.fit (fun _ _ => rfl), Only.grown hp.grown (Or.inl rfl)⟩
  have ht := k1.move hm hw
  exact ⟨⟨⟨L', R, S, O, T, ht.st, k2.other hl (fun _ _ => rfl) hO, rfl, hP, hQ, hV, hr⟩, hn⟩, ht.only⟩
def writeV (V : Nat → Nat → Int) (f q : Nat) (v : Int) : Nat → Nat → Int := fun g j => if g = f ∧ j = q then v else V g j
theorem SysS.write (h : SysS W0 w tb sb X n lo hi c W Q V) (f q : Nat) (v : Int) (h0 : Q f ≠ 0) (hq : q < 32) (hv : 0 ≤ v ∧ v < 4294967296) : Calls Tryz.prog 102 #[.pointer (some ⟨X.mp, 0, none⟩), .int .i64 (f : Int), .int .i64 (q : Int), .int .u32 v] w fun e w' => e = .returned (.int .i64 0) ∧ GoneS W0 w w' tb sb X n lo hi c W Q (writeV V f q v) := by
  obtain ⟨L, R, S, O, T, k1, k2, rfl, k4, k5, k6, k7⟩ := h.ex
  have hf := k7 f h0
  have hn := k2.nm
  have hO : O f = none := (QF_ne (by rw [← k5]; exact h0)).1
  refine (write_ok X.mp X.fb X.n f q L v w k1.own.st.mem (by rw [h.hn]; omega) hq).mono fun e w' ⟨he, hp⟩ => ⟨he, ?_⟩
  refine SysS.puts h.hn k1 k2 k4 k5 k7 hp (by rw [List.length_set]; exact k2.len) (words_set k1.wd _ _ (by rw [k2.len]; omega) hv) (fun g j hg hj => ?_) (fun g j hg hj h2 => ?_)
  · have : g ≠ f := fun e => by rw [e, hO] at hg; cases hg
    rw [getD_setI _ _ _ _ (by rw [k2.len]; omega), if_neg (by omega)]
  · rw [getD_setI _ _ _ _ (by rw [k2.len]; omega)]
    unfold writeV
    by_cases e : g = f ∧ j = q
    · rw [if_pos e, if_pos (by omega)]
    · rw [if_neg e, if_neg (by omega), k6 g j hg hj h2]
def copyV (V : Nat → Nat → Int) (x f : Nat) : Nat → Nat → Int := fun g j => if g = x then V f j else V g j
theorem getD_rowS (L : List Int) (f j : Nat) (hj : j < 32) : (rowOf L f).getD j 0 = L.getD (f * 32 + j) 0 := by
  simp only [rowOf, List.getD_eq_getElem?_getD, List.getElem?_take, if_pos hj, List.getElem?_drop]
theorem getD_putS (L K : List Int) (f i : Nat) (hK : K.length = 32) (hf : f * 32 + 32 ≤ L.length) : (putRow L f K).getD i 0 = if f * 32 ≤ i ∧ i < f * 32 + 32 then K.getD (i - f * 32) 0 else L.getD i 0 := by
  have hl : (L.take (f * 32)).length = f * 32 := by rw [List.length_take]; omega
  simp only [putRow, List.getD_eq_getElem?_getD]
  by_cases h1 : i < f * 32
  · rw [List.append_assoc, List.getElem?_append_left (by rw [hl]; exact h1), List.getElem?_take, if_pos h1, if_neg (by omega)]
  · by_cases h2 : i < f * 32 + 32
    · rw [List.append_assoc, List.getElem?_append_right (by rw [hl]; omega), hl, List.getElem?_append_left (by rw [hK]; omega), if_pos ⟨by omega, h2⟩]
    · rw [List.append_assoc, List.getElem?_append_right (by rw [hl]; omega), hl, List.getElem?_append_right (by rw [hK]; omega), if_neg (by omega), List.getElem?_drop, hK, show f * 32 + 32 + (i - f * 32 - 32) = i by omega]
theorem SysS.copy (h : SysS W0 w tb sb X n lo hi c W Q V) (x f : Nat) (h0 : Q f ≠ 0) (h1 : Q x ≠ 0) : Calls Tryz.prog 176 #[.pointer (some ⟨X.mp, 0, none⟩), .int .i64 (x : Int), .int .i64 (f : Int)] w fun e w' => e = .returned (.int .i64 0) ∧ GoneS W0 w w' tb sb X n lo hi c W Q (copyV V x f) := by
  obtain ⟨L, R, S, O, T, k1, k2, rfl, k4, k5, k6, k7⟩ := h.ex
  have hf := k7 f h0
  have hx := k7 x h1
  have hn := k2.nm
  have hO : O x = none := (QF_ne (by rw [← k5]; exact h1)).1
  have hK : (rowOf L f).length = 32 := rowOf_length k2.len (by omega)
  have hG : ∀ g j, g < n → j < 32 → (putRow L x (rowOf L f)).getD (g * 32 + j) 0 = if g = x then L.getD (f * 32 + j) 0 else L.getD (g * 32 + j) 0 := fun g j hg hj => by
    rw [getD_putS _ _ _ _ hK (by rw [k2.len]; omega)]
    by_cases e : g = x
    · subst e; rw [if_pos ⟨by omega, by omega⟩, if_pos rfl, show g * 32 + j - g * 32 = j by omega, getD_rowS _ _ _ hj]
    · rw [if_neg (by omega), if_neg e]
  have hG2 : ∀ i, (putRow L x (rowOf L f)).getD i 0 = if x * 32 ≤ i ∧ i < x * 32 + 32 then L.getD (f * 32 + (i - x * 32)) 0 else L.getD i 0 := fun i => by
    rw [getD_putS _ _ _ _ hK (by rw [k2.len]; omega)]
    split
    · rw [getD_rowS _ _ _ (by omega)]
    · rfl
  refine (copy_ok X.mp X.fb X.n f x L w k1.own.st.mem (by rw [h.hn]; omega) (by rw [h.hn]; omega)).mono fun e w' ⟨he, hp⟩ => ⟨he, ?_⟩
  refine SysS.puts h.hn k1 k2 k4 k5 k7 hp (putRow_length k2.len (by omega) hK) (fun i => ?_) (fun g j hg hj => ?_) (fun g j hg hj h2 => ?_)
  · rw [hG2]
    split
    · exact k1.wd _
    · exact k1.wd _
  · have h3 : g ≠ x := fun e => by rw [e, hO] at hg; cases hg
    have := (k2.low g hg).2
    rw [hG g j (by omega) hj, if_neg h3]
  · rw [hG g j hg hj]
    unfold copyV
    by_cases e : g = x
    · rw [if_pos e, if_pos e, k6 f j (by omega) hj h0]
    · rw [if_neg e, if_neg e, k6 g j hg hj h2]
end
end Go.Proofs.YtkenipanpimolaaGreatDoor
