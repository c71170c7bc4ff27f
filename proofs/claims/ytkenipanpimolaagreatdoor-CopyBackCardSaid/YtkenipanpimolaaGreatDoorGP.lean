/- Texts of mine, joined: N21 N22 N23 N24 N25 N26 N27. What each says and under which conditions stands at its head, below. -/
import Derived.Test.YtkenipanpimolaaGreatDoorGN
import Derived.Test.YtkenipanpimolaaGreatDoorGNL
/- Spaces as functions of pages, tables as words: what always holds of both. Nothing of a program. -/
namespace Go.Proofs.YtkenipanpimolaaGreatDoor
open Go.RowKit
set_option maxRecDepth 100000

theorem decode_wordOf {p x c : Bool} {g : Int} (h : okE p x c g = true) : decode (wordOf p x c g) = some (p, x, c, g) := by
  obtain ⟨h0, h1, _⟩ := okE_low h
  have e1 : wordOf p x c g % 2 = bit p := by unfold wordOf; have := bit_lo p; have := bit_hi p; omega
  have e2 : wordOf p x c g / 2 % 2 = bit x := by unfold wordOf; have := bit_lo p; have := bit_hi p; have := bit_lo x; have := bit_hi x; omega
  have e3 : wordOf p x c g / 4 % 2 = bit c := by unfold wordOf; have := bit_lo p; have := bit_hi p; have := bit_lo x; have := bit_hi x; have := bit_lo c; have := bit_hi c; omega
  have e4 : wordOf p x c g / 256 % 1024 = g := by unfold wordOf; have := bit_lo p; have := bit_hi p; have := bit_lo x; have := bit_hi x; have := bit_lo c; have := bit_hi c; omega
  have b : ∀ b : Bool, decide (bit b = 1) = b := by intro b; cases b <;> rfl
  unfold decode
  simp only [e1, e2, e3, e4, b, h, true_and, if_true]
theorem entAt_nat {n : Nat} {L : List Int} {f q : Nat} (hf : f < n) (hq : q < 32) : entAt n L (f : Int) (q : Int) = (match decode (L.getD (f * 32 + q) 0) with | some e => if e.2.2.2 < (n : Int) then some e else none | none => none) := by
  unfold entAt
  rw [if_pos ⟨by omega, by omega, by omega, by omega⟩]
  rfl
theorem putT_length (L : List Int) (f q : Nat) (e : Ent) : (putT L f q e).length = L.length := by simp [putT]
theorem entAt_put_same {n : Nat} {L : List Int} {f q : Nat} {e : Ent} (hl : L.length = n * 32) (hf : f < n) (hq : q < 32) (hok : okE e.1 e.2.1 e.2.2.1 e.2.2.2 = true) (hg : e.2.2.2 < n) : entAt n (putT L f q e) (f : Int) (q : Int) = some e := by
  rw [entAt_nat hf hq, putT, getD_setI _ _ _ _ (by rw [hl]; omega), if_pos rfl, decode_wordOf hok]
  simp only [hg, if_true]
theorem entAt_put_other {n : Nat} {L : List Int} {f q f' q' : Nat} {e : Ent} (hl : L.length = n * 32) (hf : f < n) (hq : q < 32) (hf' : f' < n) (hq' : q' < 32) (hne : f' ≠ f ∨ q' ≠ q) : entAt n (putT L f q e) (f' : Int) (q' : Int) = entAt n L (f' : Int) (q' : Int) := by
  rw [entAt_nat hf' hq', entAt_nat hf' hq', putT, getD_setI _ _ _ _ (by rw [hl]; omega), if_neg (by omega)]
theorem getD_row (L : List Int) (f i : Nat) (hf : f * 32 + 32 ≤ L.length) : (putRow L f zeros).getD i 0 = if f * 32 ≤ i ∧ i < f * 32 + 32 then 0 else L.getD i 0 := by
  have hl : (L.take (f * 32)).length = f * 32 := by rw [List.length_take]; omega
  simp only [putRow, zeros, List.getD_eq_getElem?_getD]
  by_cases h1 : i < f * 32
  · rw [List.append_assoc, List.getElem?_append_left (by rw [hl]; exact h1), List.getElem?_take, if_pos h1, if_neg (by omega)]
  · by_cases h2 : i < f * 32 + 32
    · rw [List.append_assoc, List.getElem?_append_right (by rw [hl]; omega), hl, List.getElem?_append_left (by simp; omega), if_pos ⟨by omega, h2⟩, List.getElem?_replicate, if_pos (by omega)]; rfl
    · rw [List.append_assoc, List.getElem?_append_right (by rw [hl]; omega), hl, List.getElem?_append_right (by simp; omega), if_neg (by omega), List.getElem?_drop, List.length_replicate, show f * 32 + 32 + (i - f * 32 - 32) = i by omega]
theorem entAt_row_same {n : Nat} {L : List Int} {f q : Nat} (hl : L.length = n * 32) (hf : f < n) (hq : q < 32) : entAt n (putRow L f zeros) (f : Int) (q : Int) = some z0 := by
  rw [entAt_nat hf hq, getD_row _ _ _ (by rw [hl]; omega), if_pos ⟨by omega, by omega⟩, decode_zero]
  have : z0.2.2.2 < (n : Int) := by simp [z0]; omega
  simp only [this, if_true]
theorem entAt_row_other {n : Nat} {L : List Int} {f f' q' : Nat} (hl : L.length = n * 32) (hf : f < n) (hf' : f' < n) (hq' : q' < 32) (hne : f' ≠ f) : entAt n (putRow L f zeros) (f' : Int) (q' : Int) = entAt n L (f' : Int) (q' : Int) := by
  rw [entAt_nat hf' hq', entAt_nat hf' hq', getD_row _ _ _ (by rw [hl]; omega), if_neg (by omega)]

/-- A space: of each page its entry; zero, where none is mapped. -/
abbrev Sp := Nat → Ent
def fitsE (n : Nat) (e : Ent) : Prop := e.1 = true ∧ e.2.2.2 < (n : Int) ∧ okE e.1 e.2.1 e.2.2.1 e.2.2.2 = true
def hasB (F : Sp) (i : Nat) : Bool := (List.range 32).any fun j => (F (32 * i + j)).1
theorem hasB_iff (F : Sp) (i : Nat) : hasB F i = true ↔ ∃ j, j < 32 ∧ (F (32 * i + j)).1 = true := by simp [hasB]
def updF (F : Sp) (p : Nat) (e : Ent) : Sp := fun q => if q = p then e else F q
theorem updF_same (F : Sp) (p : Nat) (e : Ent) : updF F p e p = e := by simp [updF]
theorem updF_other (F : Sp) (p : Nat) (e : Ent) (q : Nat) (h : q ≠ p) : updF F p e q = F q := by simp [updF, h]
def updW {α : Type} (W : Nat → Option α) (r : Nat) (v : Option α) : Nat → Option α := fun x => if x = r then v else W x
theorem updW_same {α : Type} (W : Nat → Option α) (r : Nat) (v : Option α) : updW W r v r = v := by simp [updW]
theorem updW_other {α : Type} (W : Nat → Option α) (r : Nat) (v : Option α) (x : Nat) (h : x ≠ r) : updW W r v x = W x := by simp [updW, h]
theorem hasB_far (F : Sp) (p : Nat) (e : Ent) (i : Nat) (h : i ≠ p / 32) : hasB (updF F p e) i = hasB F i := by
  have : ∀ j, j < 32 → updF F p e (32 * i + j) = F (32 * i + j) := fun j hj => updF_other _ _ _ _ (by omega)
  rw [Bool.eq_iff_iff, hasB_iff, hasB_iff]
  exact ⟨fun ⟨j, h1, h2⟩ => ⟨j, h1, by rw [← this j h1]; exact h2⟩, fun ⟨j, h1, h2⟩ => ⟨j, h1, by rw [this j h1]; exact h2⟩⟩
theorem hasB_put (F : Sp) (p : Nat) (e : Ent) (h : e.1 = true) : hasB (updF F p e) (p / 32) = true :=
  (hasB_iff _ _).2 ⟨p % 32, by omega, by rw [show 32 * (p / 32) + p % 32 = p by omega, updF_same]; exact h⟩
theorem hasB_of {F : Sp} {p : Nat} (h : (F p).1 = true) : hasB F (p / 32) = true :=
  (hasB_iff _ _).2 ⟨p % 32, by omega, by rw [show 32 * (p / 32) + p % 32 = p by omega]; exact h⟩

/-- Whose a frame is: a space's root, or a space's table. -/
abbrev Own := Nat → Option (Nat × Option Nat)
structure Inv (n m : Nat) (L : List Int) (R : Nat → Nat) (S : Nat → Bool) (W : Nat → Option Sp) (O : Own) : Prop where
  len : L.length = n * 32
  nm : n = m + 2
  top : n ≤ 1024
  sp : ∀ r : Nat, S r = (W r).isSome
  root : ∀ (r : Nat) (F : Sp), W r = some F → r < m ∧ O r = some (r, none)
  yes : ∀ (r : Nat) (F : Sp) (i : Nat), W r = some F → i < 32 → hasB F i = true → ∃ g : Nat, g < m ∧ O g = some (r, some i) ∧ entAt n L (r : Int) (i : Int) = some (true, false, false, (g : Int)) ∧ ∀ j : Nat, j < 32 → entAt n L (g : Int) (j : Int) = some (F (32 * i + j))
  no : ∀ (r : Nat) (F : Sp) (i : Nat), W r = some F → i < 32 → hasB F i = false → entAt n L (r : Int) (i : Int) = some z0
  fit : ∀ (r : Nat) (F : Sp) (p : Nat), W r = some F → F p = z0 ∨ fitsE n (F p)
  held : ∀ f : Nat, R f = if (O f).isSome then 1 else 0
  low : ∀ f : Nat, (O f).isSome → f < m
end Go.Proofs.YtkenipanpimolaaGreatDoor

/- What calls do to spaces, and to the tables' words: what always holds stays. Nothing of a program. -/
namespace Go.Proofs.YtkenipanpimolaaGreatDoor
open Go.RowKit
set_option maxRecDepth 100000

theorem fits_z {n : Nat} {e : Ent} (hn : 0 < n) (h : e = z0 ∨ fitsE n e) : okE e.1 e.2.1 e.2.2.1 e.2.2.2 = true ∧ e.2.2.2 < n := by
  rcases h with rfl | h
  · exact ⟨by decide, by simp [z0]; omega⟩
  · exact ⟨h.2.2, h.2.1⟩
end Go.Proofs.YtkenipanpimolaaGreatDoor

/- What calls do to spaces: a table more, a table less, a space less. Nothing of a program. -/
namespace Go.Proofs.YtkenipanpimolaaGreatDoor
open Go.RowKit
set_option maxRecDepth 100000

end Go.Proofs.YtkenipanpimolaaGreatDoor

/- What calls answer, of spaces as functions of pages. Nothing of a program. -/
namespace Go.Proofs.YtkenipanpimolaaGreatDoor
open Go.RowKit
set_option maxRecDepth 100000

/-- The space of a root; how many frames are left. -/
def spOf (W : Nat → Option Sp) (r : Int) : Option Sp := if 0 ≤ r then W r.toNat else none
def leftM (m : Nat) (R : Nat → Nat) : Nat := leftA (madeP m) R 0
theorem spOf_nat (W : Nat → Option Sp) (r : Nat) : spOf W (r : Int) = W r := by simp [spOf]
theorem spOf_some {W : Nat → Option Sp} {r : Int} {F : Sp} (h : spOf W r = some F) : ∃ k : Nat, r = (k : Int) ∧ W k = some F := by
  unfold spOf at h
  split at h
  · exact ⟨r.toNat, by omega, h⟩
  · cases h
/-- What stands against a page of a space. -/
def askErr (W : Nat → Option Sp) (r pg : Int) (fine : Bool) : Int := if (0 ≤ pg ∧ pg < 1024) ∧ fine = true then (if (spOf W r).isSome then 0 else 4) else 2
def fitV (n : Nat) (e : Ent) : Bool := fitB n e.1 e.2.1 e.2.2.1 e.2.2.2
theorem fitV_iff (n : Nat) (e : Ent) : fitV n e = true ↔ fitsE n e := by
  unfold fitV fitB fitsE
  simp only [Bool.and_eq_true, decide_eq_true_eq]
theorem numE_in {pg : Int} (h : 0 ≤ pg ∧ pg < 1024) : numE pg = 0 := by unfold numE; rw [if_pos h]
theorem numE_out {pg : Int} (h : ¬ (0 ≤ pg ∧ pg < 1024)) : numE pg = 2 := by unfold numE; rw [if_neg h]
theorem fitE_in {n : Nat} {e : Ent} (h : fitV n e = true) : fitE n e.1 e.2.1 e.2.2.1 e.2.2.2 = 0 := by unfold fitE; rw [show fitB n e.1 e.2.1 e.2.2.1 e.2.2.2 = true from h]; rfl
theorem fitE_out {n : Nat} {e : Ent} (h : fitV n e = false) : fitE n e.1 e.2.1 e.2.2.1 e.2.2.2 = 2 := by unfold fitE; rw [show fitB n e.1 e.2.1 e.2.2.1 e.2.2.2 = false from h]; rfl
theorem askErr_out {W : Nat → Option Sp} {r pg : Int} {b : Bool} (h : ¬ ((0 ≤ pg ∧ pg < 1024) ∧ b = true)) : askErr W r pg b = 2 := by unfold askErr; rw [if_neg h]
theorem askErr_no {W : Nat → Option Sp} {r pg : Int} {b : Bool} (h : (0 ≤ pg ∧ pg < 1024) ∧ b = true) (hs : (spOf W r).isSome = false) : askErr W r pg b = 4 := by unfold askErr; rw [if_pos h, hs]; rfl
theorem askErr_yes {W : Nat → Option Sp} {r pg : Int} {b : Bool} (h : (0 ≤ pg ∧ pg < 1024) ∧ b = true) (hs : (spOf W r).isSome = true) : askErr W r pg b = 0 := by unfold askErr; rw [if_pos h, hs]; rfl
theorem first1 (k : Int) : firstE [k] = k := by by_cases hk : k = 0 <;> simp [firstE, hk]
theorem askErr_zero {W : Nat → Option Sp} {r pg : Int} {b : Bool} (h : askErr W r pg b = 0) : ∃ (k p : Nat) (F : Sp), r = (k : Int) ∧ pg = (p : Int) ∧ p < 1024 ∧ W k = some F ∧ b = true ∧ spOf W r = some F := by
  unfold askErr at h
  split at h
  · rename_i hh
    split at h
    · rename_i hs
      obtain ⟨F, hF⟩ := Option.isSome_iff_exists.1 hs
      obtain ⟨k, hk, hw⟩ := spOf_some hF
      exact ⟨k, pg.toNat, F, hk, by omega, by omega, hw, hh.2, hF⟩
    · cases h
  · cases h
/-- Map: the error; the spaces. -/
def mapErr (n : Nat) (W : Nat → Option Sp) (left : Nat) (r pg : Int) (e : Ent) : Int :=
  if askErr W r pg (fitV n e) = 0 then
    (match spOf W r with
    | none => 0
    | some F => if (F pg.toNat).1 = true then 5 else if hasB F (pg.toNat / 32) = false ∧ left = 0 then 3 else 0)
  else askErr W r pg (fitV n e)
def putW (W : Nat → Option Sp) (r pg : Int) (e : Ent) : Nat → Option Sp := updW W r.toNat ((spOf W r).map fun F => updF F pg.toNat e)
def needs (W : Nat → Option Sp) (r pg : Int) : Nat := match spOf W r with
  | none => 0
  | some F => if hasB F (pg.toNat / 32) = true then 0 else 1
theorem pg_div (p : Nat) : ((p : Int) / 32) = ((p / 32 : Nat) : Int) := by omega
theorem pg_mod (p : Nat) : ((p : Int) % 32) = ((p % 32 : Nat) : Int) := by omega
theorem putI_nat (L : List Int) (f q : Nat) (e : Ent) : putI L (f : Int) (q : Int) e = putT L f q e := by simp [putI]
/-- Set. -/
def setErr (n : Nat) (W : Nat → Option Sp) (r pg : Int) (e : Ent) : Int :=
  if askErr W r pg (fitV n e) = 0 then
    (match spOf W r with
    | none => 0
    | some F => if (F pg.toNat).1 = true then 0 else 4)
  else askErr W r pg (fitV n e)
end Go.Proofs.YtkenipanpimolaaGreatDoor

/- What calls answer, of spaces as functions of pages: Unmap, Close, Query, Tables, All. Nothing of a program. -/
namespace Go.Proofs.YtkenipanpimolaaGreatDoor
open Go.RowKit
set_option maxRecDepth 100000

/-- Unmap: the error; the entry. -/
def unmErr (W : Nat → Option Sp) (r pg : Int) : Int :=
  if askErr W r pg true = 0 then
    (match spOf W r with
    | none => 0
    | some F => if (F pg.toNat).1 = true then 0 else 4)
  else askErr W r pg true
def entW (W : Nat → Option Sp) (r pg : Int) : Ent := match spOf W r with
  | none => z0
  | some F => F pg.toNat
def frees (W : Nat → Option Sp) (r pg : Int) : Nat := match spOf W r with
  | none => 0
  | some F => if hasB (updF F pg.toNat z0) (pg.toNat / 32) = true then 0 else 1
theorem unmErr_zero {W : Nat → Option Sp} {r pg : Int} (h : unmErr W r pg = 0) : ∃ (k p : Nat) (F : Sp), r = (k : Int) ∧ pg = (p : Int) ∧ p < 1024 ∧ W k = some F ∧ spOf W r = some F ∧ (F p).1 = true := by
  unfold unmErr at h
  by_cases h0 : askErr W r pg true = 0
  · obtain ⟨k, p, F, rfl, rfl, hp, hw, _, hF⟩ := askErr_zero h0
    rw [if_pos h0, hF] at h
    refine ⟨k, p, F, rfl, rfl, hp, hw, hF, ?_⟩
    by_cases hx : (F p).1 = true
    · exact hx
    · simp [hx] at h
  · rw [if_neg h0] at h; exact absurd h h0
/-- Close: the error. -/
def emptyF (F : Sp) : Bool := (List.range 32).all fun i => !hasB F i
def clsErr (W : Nat → Option Sp) (r : Int) : Int := match spOf W r with
  | none => 4
  | some F => if emptyF F = true then 0 else 9
/-- Tables, All. -/
def segN (F : Sp) (a : Nat) : Nat → List MapE
  | 0 => []
  | k + 1 => segN F a k ++ (if (F (a + k)).1 = true then [(((a + k : Nat) : Int), F (a + k))] else [])
theorem segN_add (F : Sp) (a b : Nat) : ∀ c, segN F a (b + c) = segN F a b ++ segN F (a + b) c
  | 0 => by simp [segN]
  | c + 1 => by
    rw [← Nat.add_assoc, segN, segN_add F a b c, segN, List.append_assoc, Nat.add_assoc]
theorem segN_none (F : Sp) (a : Nat) : ∀ c, (∀ j, j < c → (F (a + j)).1 = false) → segN F a c = []
  | 0, _ => rfl
  | c + 1, h => by rw [segN, segN_none F a c (fun j hj => h j (by omega)), h c (by omega)]; rfl
def allF (F : Sp) : List MapE := segN F 0 1024
def tabF (F : Sp) : Nat := 1 + ((List.range 32).filter (hasB F)).length
def tabW (W : Nat → Option Sp) (r : Int) : Nat := match spOf W r with
  | none => 0
  | some F => tabF F
def allW (W : Nat → Option Sp) (r : Int) : List MapE := match spOf W r with
  | none => []
  | some F => allF F
end Go.Proofs.YtkenipanpimolaaGreatDoor

/- A manager of a law's own, and its spaces as functions of pages: what each call answers, and leaves. Condition: the listed tables read as laid. -/
namespace Go.Proofs.YtkenipanpimolaaGreatDoor
open Go.RowKit Go.Maps
set_option maxRecDepth 100000

/-- The manager, its spaces, how many frames are left. -/
structure Sys (W0 w : World) (tb sb : Nat) (X : PIx) (n m c : Nat) (W : Nat → Option Sp) : Prop where
  ex : ∃ L R S O, Mg W0 w tb sb X L R S ∧ Inv n m L R S W O ∧ leftM m R = c
  hn : X.n = n
  hP : X.P = madeP m
/-- What a call leaves. -/
structure Gone (W0 w w' : World) (tb sb : Nat) (X : PIx) (n m c : Nat) (W : Nat → Option Sp) : Prop where
  st : Sys W0 w' tb sb X n m c W
  only : Only w w' (mgB X sb)
def MadeSys (m : Nat) (W0 : World) (e : Ending) (w' : World) : Prop := ∃ tb sb X, e = .returned (.tuple #[.pointer (some ⟨X.mp, 0, none⟩), .pointer (some ⟨X.pb, 0, none⟩), .pointer (some ⟨tb, 0, none⟩), .bool true]) ∧ Sys W0 w' tb sb X (m + 2) m m (fun _ => none)
section
variable {W0 w : World} {tb sb n m c : Nat} {X : PIx} {W : Nat → Option Sp}
def OpenPost (W0 w : World) (tb sb : Nat) (X : PIx) (n m c : Nat) (W : Nat → Option Sp) (e : Ending) (w' : World) : Prop :=
  (c = 0 ∧ e = .returned (.tuple #[.int .i64 0, .int .i64 3]) ∧ Gone W0 w w' tb sb X n m c W) ∨
  (∃ x : Nat, x < m ∧ W x = none ∧ 1 ≤ c ∧ e = .returned (.tuple #[.int .i64 (x : Int), .int .i64 0]) ∧ Gone W0 w w' tb sb X n m (c - 1) (updW W x (some fun _ => z0)))
def mapC (n c : Nat) (W : Nat → Option Sp) (r pg : Int) (e : Ent) : Nat := if mapErr n W c r pg e = 0 then c - needs W r pg else c
def mapW (n c : Nat) (W : Nat → Option Sp) (r pg : Int) (e : Ent) : Nat → Option Sp := if mapErr n W c r pg e = 0 then putW W r pg e else W
def setW (n : Nat) (W : Nat → Option Sp) (r pg : Int) (e : Ent) : Nat → Option Sp := if setErr n W r pg e = 0 then putW W r pg e else W
def unmC (c : Nat) (W : Nat → Option Sp) (r pg : Int) : Nat := if unmErr W r pg = 0 then c + frees W r pg else c
def unmW (W : Nat → Option Sp) (r pg : Int) : Nat → Option Sp := if unmErr W r pg = 0 then putW W r pg z0 else W
def unmE' (W : Nat → Option Sp) (r pg : Int) : Ent := if unmErr W r pg = 0 then entW W r pg else z0
def clsC (c : Nat) (W : Nat → Option Sp) (r : Int) : Nat := if clsErr W r = 0 then c + 1 else c
def clsW (W : Nat → Option Sp) (r : Int) : Nat → Option Sp := if clsErr W r = 0 then updW W r.toNat none else W
end
end Go.Proofs.YtkenipanpimolaaGreatDoor

/- Counting tables and mappings of spaces; the law PtableFull. Condition: the listed tables read as laid. -/
namespace Go.Proofs.YtkenipanpimolaaGreatDoor
open Go.RowKit Go.Maps
set_option maxRecDepth 100000

def zF : Sp := fun _ => z0
section
variable {n c : Nat} {W : Nat → Option Sp} {r : Int} {F : Sp} {p : Nat} {e : Ent}
end
end Go.Proofs.YtkenipanpimolaaGreatDoor
