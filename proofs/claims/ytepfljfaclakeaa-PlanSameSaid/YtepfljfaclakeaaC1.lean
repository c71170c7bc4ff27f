/- Configurations as lists of numbers; whether they may be; their frames; their bytes, and what bytes are one's. In lists alone. No condition. -/
import Derived.Test.YtepfljfaclakeaaB6
namespace Go.Proofs.Ytepfljfaclakeaa
open Go.RowKit
set_option maxRecDepth 100000

abbrev Row := List Int
abbrev Cf := List Row × List Row × List Row
/-- Is a number from one to another? -/
def inB (n lo hi : Int) : Bool := decide (lo ≤ n) && decide (n ≤ hi)
def partB (T : Row) : Bool := inB (T.getD 0 0) 4 256 && inB (T.getD 1 0) 1 8
def winB (n : Nat) (T : Row) : Bool := inB (T.getD 0 0) 0 ((n : Int) - 1) && inB (T.getD 1 0) 1 255
def chanB (n : Nat) (T : Row) : Bool := inB (T.getD 0 0) 0 ((n : Int) - 1) && (inB (T.getD 1 0) 0 ((n : Int) - 1) && (!(T.getD 0 0 == T.getD 1 0) && (inB (T.getD 2 0) 1 8 && inB (T.getD 3 0) 1 8)))
def hasB (W : List Row) (i : Nat) : Bool := W.any fun T => T.getD 0 0 == (i : Int)
/-- May it be, but for its frames? -/
def mayB (C : Cf) : Bool := (inB C.1.length 1 8 && C.1.all partB) && ((inB C.2.1.length 1 32 && C.2.1.all (winB C.1.length)) && ((inB C.2.2.length 0 16 && C.2.2.all (chanB C.1.length)) && (List.range C.1.length).all (hasB C.2.1)))
def partF (T : Row) : Int := T.getD 0 0 + (T.getD 1 0 + 2) / 3
def chanF (T : Row) : Int := (T.getD 2 0 * (T.getD 3 0 + 1) + 31) / 32
def framesC (C : Cf) : Int := (C.1.map partF).sum + (C.2.2.map chanF).sum
/-- What Check answers. -/
def chk (C : Cf) : Int := if mayB C then (if framesC C ≤ 1024 then 0 else 3) else 2
def framesA (C : Cf) : Int := if mayB C then framesC C else 0

def encR : List Nat → Row → List UInt8
  | k :: ks, x :: T => bytesOf x.toNat k ++ encR ks T
  | _, _ => []
def encS (ws : List Nat) (S : List Row) : List UInt8 := S.flatMap (encR ws)
def encL (ws : List Nat) (S : List Row) : List UInt8 := bytesOf S.length 1 ++ encS ws S
def magic : List UInt8 := [80, 82, 49]
abbrev pw : List Nat := [2, 1]
abbrev ww : List Nat := [1, 1]
abbrev cw : List Nat := [1, 1, 1, 1]
/-- Its bytes. -/
def encC (C : Cf) : List UInt8 := magic ++ (encL pw C.1 ++ (encL ww C.2.1 ++ encL cw C.2.2))

def fitsR : List Nat → Row → Prop
  | [], [] => True
  | k :: ks, x :: T => 0 ≤ x ∧ x < 256 ^ k ∧ fitsR ks T
  | _, _ => False
def fitsL (ws : List Nat) (S : List Row) : Prop := S.length < 256 ∧ ∀ T ∈ S, fitsR ws T
def fitsC (C : Cf) : Prop := fitsL pw C.1 ∧ fitsL ww C.2.1 ∧ fitsL cw C.2.2

def numP (k : Nat) (l : List UInt8) : Option (Nat × List UInt8) := if k ≤ l.length then some (numOf (l.take k), l.drop k) else none
def rowP : List Nat → List UInt8 → Option (Row × List UInt8)
  | [], l => some ([], l)
  | k :: ks, l => (numP k l).bind fun p => (rowP ks p.2).bind fun q => some ((p.1 : Int) :: q.1, q.2)
def rowsP (ws : List Nat) : Nat → List UInt8 → Option (List Row × List UInt8)
  | 0, l => some ([], l)
  | n + 1, l => (rowsP ws n l).bind fun p => (rowP ws p.2).bind fun q => some (p.1 ++ [q.1], q.2)
def listP (ws : List Nat) (l : List UInt8) : Option (List Row × List UInt8) := (numP 1 l).bind fun p => rowsP ws p.1 p.2
def textP (t l : List UInt8) : Option (List UInt8) := if t.length ≤ l.length ∧ l.take t.length = t then some (l.drop t.length) else none
def preP (l : List UInt8) : Option (Cf × List UInt8) := (textP magic l).bind fun l0 => (listP pw l0).bind fun p => (listP ww p.2).bind fun q => (listP cw q.2).bind fun r => some ((p.1, q.1, r.1), r.2)
/-- The configuration of bytes, if they are one's. -/
def parse (l : List UInt8) : Option Cf := (preP l).bind fun p => if p.2 = [] then some p.1 else none

theorem numP_enc (k n : Nat) (m : List UInt8) (h : n < 256 ^ k) : numP k (bytesOf n k ++ m) = some (n, m) := by
  have hl := bytesOf_length n k
  rw [numP, if_pos (by simp; omega), List.take_append_of_le_length (by omega), List.drop_append_of_le_length (by omega), List.take_of_length_le (by omega), List.drop_of_length_le (by omega), numOf_bytesOf k n h]
  simp
theorem numP_some {k : Nat} {l r : List UInt8} {n : Nat} (h : numP k l = some (n, r)) : bytesOf n k ++ r = l ∧ n < 256 ^ k := by
  unfold numP at h
  split at h
  · rename_i hk
    simp only [Option.some.injEq, Prod.mk.injEq] at h
    obtain ⟨rfl, rfl⟩ := h
    have hl : (l.take k).length = k := by simp; omega
    have h1 := bytesOf_numOf (l.take k)
    have h2 := numOf_lt (l.take k)
    rw [hl] at h1 h2
    exact ⟨by rw [h1, List.take_append_drop], h2⟩
  · cases h
theorem rowP_enc : ∀ (ws : List Nat) (T : Row) (m : List UInt8), fitsR ws T → rowP ws (encR ws T ++ m) = some (T, m)
  | [], [], m, _ => rfl
  | k :: ks, x :: T, m, h => by
    obtain ⟨h1, h2, h3⟩ := h
    obtain ⟨n, rfl⟩ := Int.eq_ofNat_of_zero_le h1
    have h4 : n < 256 ^ k := by exact_mod_cast h2
    rw [encR, rowP, List.append_assoc, show ((n : Int).toNat) = n from rfl, numP_enc k n _ h4]
    simp only [Option.bind_some, rowP_enc ks T m h3]
  | [], _ :: _, _, h => h.elim
  | _ :: _, [], _, h => h.elim
theorem rowP_some : ∀ (ws : List Nat) {l r : List UInt8} {T : Row}, rowP ws l = some (T, r) → encR ws T ++ r = l ∧ fitsR ws T
  | [], l, r, T, h => by
    simp only [rowP, Option.some.injEq, Prod.mk.injEq] at h
    obtain ⟨rfl, rfl⟩ := h
    exact ⟨rfl, trivial⟩
  | k :: ks, l, r, T, h => by
    simp only [rowP, Option.bind_eq_some_iff] at h
    obtain ⟨⟨n, l1⟩, h1, ⟨T1, l2⟩, h2, h3⟩ := h
    simp only [Option.some.injEq, Prod.mk.injEq] at h3
    obtain ⟨rfl, rfl⟩ := h3
    obtain ⟨e1, b1⟩ := numP_some h1
    obtain ⟨e2, f2⟩ := rowP_some ks h2
    refine ⟨?_, by omega, by exact_mod_cast b1, f2⟩
    show bytesOf n k ++ encR ks T1 ++ l2 = l
    rw [List.append_assoc, e2, e1]
theorem encS_snoc (ws : List Nat) (S : List Row) (T : Row) : encS ws (S ++ [T]) = encS ws S ++ encR ws T := by simp [encS]
theorem rowsP_enc (ws : List Nat) : ∀ (n : Nat) (S : List Row) (m : List UInt8), S.length = n → (∀ T ∈ S, fitsR ws T) → rowsP ws n (encS ws S ++ m) = some (S, m)
  | 0, S, m, h, _ => by
    rw [List.length_eq_zero_iff] at h
    subst h; rfl
  | n + 1, S, m, h, hf => by
    obtain ⟨S1, T, rfl⟩ : ∃ S1 T, S = S1 ++ [T] := ⟨S.dropLast, S.getLast (by intro e; simp [e] at h), (List.dropLast_concat_getLast _).symm⟩
    rw [encS_snoc, List.append_assoc, rowsP, rowsP_enc ws n S1 _ (by simpa using h) (fun T hT => hf T (by simp [hT]))]
    simp only [Option.bind_some, rowP_enc ws T m (hf T (by simp))]
theorem rowsP_some (ws : List Nat) : ∀ (n : Nat) {l r : List UInt8} {S : List Row}, rowsP ws n l = some (S, r) → S.length = n ∧ encS ws S ++ r = l ∧ ∀ T ∈ S, fitsR ws T
  | 0, l, r, S, h => by
    simp only [rowsP, Option.some.injEq, Prod.mk.injEq] at h
    obtain ⟨rfl, rfl⟩ := h
    exact ⟨rfl, rfl, by simp⟩
  | n + 1, l, r, S, h => by
    simp only [rowsP, Option.bind_eq_some_iff] at h
    obtain ⟨⟨S1, l1⟩, h1, ⟨T1, l2⟩, h2, h3⟩ := h
    simp only [Option.some.injEq, Prod.mk.injEq] at h3
    obtain ⟨rfl, rfl⟩ := h3
    obtain ⟨e0, e1, b1⟩ := rowsP_some ws n h1
    obtain ⟨e2, f2⟩ := rowP_some ws h2
    refine ⟨by simp [e0], by rw [encS_snoc, List.append_assoc, e2, e1], fun T hT => ?_⟩
    rcases List.mem_append.1 hT with hT | hT
    · exact b1 T hT
    · simp at hT; subst hT; exact f2
theorem rowsP_none (ws : List Nat) (l : List UInt8) (i : Nat) (h : rowsP ws i l = none) : ∀ n, i ≤ n → rowsP ws n l = none := by
  intro n hn
  obtain ⟨m, rfl⟩ := Nat.exists_eq_add_of_le hn
  clear hn
  induction m with
  | zero => exact h
  | succ m ih => rw [show i + (m + 1) = (i + m) + 1 from rfl, rowsP, ih]; rfl
theorem listP_enc (ws : List Nat) (S : List Row) (m : List UInt8) (h : fitsL ws S) : listP ws (encL ws S ++ m) = some (S, m) := by
  rw [listP, encL, List.append_assoc, numP_enc 1 S.length _ (by simpa using h.1)]
  simp only [Option.bind_some, rowsP_enc ws _ S m rfl h.2]
theorem listP_some (ws : List Nat) {l r : List UInt8} {S : List Row} (h : listP ws l = some (S, r)) : encL ws S ++ r = l ∧ fitsL ws S := by
  simp only [listP, Option.bind_eq_some_iff] at h
  obtain ⟨⟨n, l1⟩, h1, h2⟩ := h
  obtain ⟨e1, b1⟩ := numP_some h1
  obtain ⟨e0, e2, f2⟩ := rowsP_some ws _ h2
  simp only at e0 e1 e2
  subst e0
  exact ⟨by rw [encL, List.append_assoc, e2, e1], by simpa using b1, f2⟩
theorem textP_enc (t m : List UInt8) : textP t (t ++ m) = some m := by
  rw [textP, if_pos (by simp)]
  simp
theorem textP_some {t l r : List UInt8} (h : textP t l = some r) : t ++ r = l := by
  unfold textP at h
  split at h
  · rename_i hk
    simp only [Option.some.injEq] at h
    subst h
    have := List.take_append_drop t.length l
    rw [hk.2] at this
    exact this
  · cases h
theorem preP_enc (C : Cf) (m : List UInt8) (h : fitsC C) : preP (encC C ++ m) = some (C, m) := by
  rw [preP, encC, List.append_assoc, textP_enc]
  simp only [Option.bind_some, List.append_assoc, listP_enc _ _ _ h.1, listP_enc _ _ _ h.2.1, listP_enc _ _ _ h.2.2]
theorem preP_some {l r : List UInt8} {C : Cf} (h : preP l = some (C, r)) : encC C ++ r = l ∧ fitsC C := by
  simp only [preP, Option.bind_eq_some_iff] at h
  obtain ⟨l0, h0, ⟨P, l1⟩, h1, ⟨W, l2⟩, h2, ⟨H, l3⟩, h3, h4⟩ := h
  simp only [Option.some.injEq, Prod.mk.injEq] at h4
  obtain ⟨rfl, rfl⟩ := h4
  have e0 := textP_some h0
  obtain ⟨e1, f1⟩ := listP_some _ h1
  obtain ⟨e2, f2⟩ := listP_some _ h2
  obtain ⟨e3, f3⟩ := listP_some _ h3
  refine ⟨?_, f1, f2, f3⟩
  simp only [encC, List.append_assoc]
  simp only at e1 e2 e3
  rw [e3, e2, e1, e0]
theorem parse_enc (C : Cf) (h : fitsC C) : parse (encC C) = some C := by
  have := preP_enc C [] h
  rw [List.append_nil] at this
  rw [parse, this]; rfl
theorem parse_some {l : List UInt8} {C : Cf} (h : parse l = some C) : encC C = l ∧ fitsC C := by
  simp only [parse, Option.bind_eq_some_iff] at h
  obtain ⟨⟨D, r⟩, h1, h2⟩ := h
  obtain ⟨e, f⟩ := preP_some h1
  simp only at h2
  split at h2
  · rename_i hr
    simp only [Option.some.injEq] at h2
    subst h2 hr
    rw [List.append_nil] at e
    exact ⟨e, f⟩
  · cases h2
/-- Bytes of two configurations, and what stands behind them, are told apart. -/
theorem encC_inj {C D : Cf} {m k : List UInt8} (hC : fitsC C) (hD : fitsC D) (h : encC C ++ m = encC D ++ k) : C = D ∧ m = k := by
  have h1 := preP_enc C m hC
  rw [h, preP_enc D k hD] at h1
  simp only [Option.some.injEq, Prod.mk.injEq] at h1
  exact ⟨h1.1.symm, h1.2.symm⟩
theorem parse_cut {C : Cf} (hC : fitsC C) (k : Nat) (hk : k < (encC C).length) : parse ((encC C).take k) = none := by
  cases hp : parse ((encC C).take k) with
  | none => rfl
  | some D =>
    obtain ⟨e, f⟩ := parse_some hp
    have h1 : encC C ++ [] = encC D ++ (encC C).drop k := by rw [e, List.take_append_drop, List.append_nil]
    have h2 := (encC_inj hC f h1).2
    have h3 := congrArg List.length h2
    simp at h3; omega
theorem parse_more {C : Cf} (hC : fitsC C) (m : List UInt8) (hm : m ≠ []) : parse (encC C ++ m) = none := by
  cases hp : parse (encC C ++ m) with
  | none => rfl
  | some D =>
    obtain ⟨e, f⟩ := parse_some hp
    have h1 : encC C ++ m = encC D ++ [] := by rw [e, List.append_nil]
    exact absurd (encC_inj hC f h1).2 hm

/-- Rows of as many numbers. -/
def shape (C : Cf) : Prop := (∀ T ∈ C.1, T.length = 2) ∧ (∀ T ∈ C.2.1, T.length = 2) ∧ ∀ T ∈ C.2.2, T.length = 4
theorem fitsR_length : ∀ (ws : List Nat) (T : Row), fitsR ws T → T.length = ws.length
  | [], [], _ => rfl
  | _ :: ks, _ :: T, h => by simp [fitsR_length ks T h.2.2]
  | [], _ :: _, h => h.elim
  | _ :: _, [], h => h.elim
theorem fitsC.shape {C : Cf} (h : fitsC C) : shape C := ⟨fun T hT => fitsR_length _ T (h.1.2 T hT), fun T hT => fitsR_length _ T (h.2.1.2 T hT), fun T hT => fitsR_length _ T (h.2.2.2 T hT)⟩
theorem inB_iff (n lo hi : Int) : inB n lo hi = true ↔ lo ≤ n ∧ n ≤ hi := by simp [inB]
theorem mayB_fits {C : Cf} (hs : shape C) (h : mayB C = true) : fitsC C := by
  obtain ⟨P, W, H⟩ := C
  obtain ⟨s1, s2, s3⟩ := hs
  simp only [mayB, Bool.and_eq_true, inB_iff, List.all_eq_true] at h s1 s2 s3
  obtain ⟨⟨⟨p1, p2⟩, p3⟩, ⟨⟨w1, w2⟩, w3⟩, ⟨⟨c1, c2⟩, c3⟩, -⟩ := h
  refine ⟨⟨by simp only; omega, fun T hT => ?_⟩, ⟨by simp only; omega, fun T hT => ?_⟩, ⟨by simp only; omega, fun T hT => ?_⟩⟩
  · have a1 := s1 T hT
    have a2 := p3 T hT
    match T, a1 with
    | [x, y], _ =>
      simp [partB, inB] at a2
      refine ⟨by omega, by omega, by omega, by omega, trivial⟩
  · have a1 := s2 T hT
    have a2 := w3 T hT
    match T, a1 with
    | [x, y], _ =>
      simp [winB, inB] at a2
      refine ⟨by omega, by omega, by omega, by omega, trivial⟩
  · have a1 := s3 T hT
    have a2 := c3 T hT
    match T, a1 with
    | [x, y, z, t], _ =>
      simp [chanB, inB] at a2
      refine ⟨by omega, by omega, by omega, by omega, by omega, by omega, by omega, by omega, trivial⟩
theorem chk_zero {C : Cf} (h : chk C = 0) : mayB C = true ∧ framesC C ≤ 1024 := by
  unfold chk at h
  split at h
  · split at h
    · exact ⟨‹_›, ‹_›⟩
    · cases h
  · cases h
theorem chk_cases (C : Cf) : chk C = 0 ∨ chk C = 2 ∨ chk C = 3 := by
  unfold chk
  split
  · split <;> simp
  · simp
theorem numS_numP (k : Nat) (h1 : 1 ≤ k) (h2 : k ≤ 4) (l : List UInt8) : numS (some l) (k : Int) = match numP k l with | some (n, r) => (n, some r) | none => (0, none) := by
  unfold numP
  by_cases h : k ≤ l.length
  · rw [if_pos h]
    simp only [numS]
    rw [if_pos ⟨⟨by omega, by omega⟩, by simpa using h⟩]; rfl
  · rw [if_neg h]
    simp only [numS]
    rw [if_neg (fun e => h (by simpa using e.2))]
theorem textS_textP (t l : List UInt8) : textS (some l) t = match textP t l with | some r => (true, some r) | none => (false, none) := by
  unfold textP
  by_cases h : t.length ≤ l.length ∧ l.take t.length = t
  · rw [if_pos h]
    simp only [textS]
    rw [if_pos h]
  · rw [if_neg h]
    simp only [textS]
    rw [if_neg h]
end Go.Proofs.Ytepfljfaclakeaa
