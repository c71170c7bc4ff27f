/- A budget in memory: a map of pointers, each to a container; the contracts of package budget's isThere, isNumber, isId, add. Condition: the budget lies as New laid it. -/
import Derived.Test.YtbmiodkdoacbeaaU1
namespace Go.Proofs.Ytbmiodkdoacbeaa
open Go.RowKit Go.Maps
set_option maxRecDepth 100000

/-- To which block each number leads. -/
abbrev Pt := Int → Option Nat
def ptI : Option Nat → Int
  | none => -1
  | some b => (b : Int)
def ptV : Option Nat → Value
  | none => .pointer none
  | some b => .pointer (some ⟨b, 0, none⟩)
def ptrElem : Value → Option (DataW Unit × List MemPlace)
  | .pointer none => some (.lit (.int .i64 (-1)), [])
  | .pointer (some a) => if a = ⟨a.block, 0, none⟩ then some (.lit (.int .i64 (a.block : Int)), []) else none
  | _ => none
theorem ptrElem_mk (x : Option Nat) : ptrElem (ptV x) = some (.lit (.int .i64 (ptI x)), []) := by
  cases x <;> simp [ptrElem, ptV, ptI]
theorem ptrElem_inv {v : Value} {ps : List MemPlace} {x : Option Nat} (h : ptrElem v = some (.lit (.int .i64 (ptI x)), ps)) : v = ptV x := by
  unfold ptrElem at h
  split at h
  · cases x with
    | none => rfl
    | some b => simp [ptI] at h
  · rename_i a
    split at h
    · rename_i e
      cases x with
      | none => simp [ptI] at h
      | some b =>
        simp [ptI] at h
        have : a.block = b := by omega
        rw [e, this]; rfl
    · cases h
  · cases h
def updP (P : Pt) (x : Int) (v : Option Nat) : Pt := fun y => if y = x then v else P y
theorem updP_same (P : Pt) (x : Int) (v : Option Nat) : updP P x v x = v := by simp [updP]
theorem updP_other (P : Pt) (x : Int) (v : Option Nat) {y : Int} (h : y ≠ x) : updP P x v y = P y := by simp [updP, h]
/-- What a map's datum says of pointers. -/
structure PtrHas (D : DataW Unit) (P : Pt) : Prop where
  at_ : ∀ x : Int, D.atKey (.int .i64 x) (.lit (.int .i64 (-1))) = .lit (.int .i64 (ptI (P x)))
  has_ : ∀ x : Int, Maps.has D (.int .i64 x) = (P x).isSome
  frames : Frames D
theorem PtrHas.empty : PtrHas (.map []) (fun _ => none) := ⟨fun x => by simp [ptI]; rfl, fun x => by simp; rfl, [], rfl, List.Pairwise.nil, fun p hp => by simp at hp⟩
theorem Frames.putI {D : DataW Unit} (h : Frames D) (x : Int) (hx : 1 ≤ x ∧ x ≤ 8) (d : DataW Unit) : Frames (D.put (.int .i64 x) d) := by
  obtain ⟨x, rfl⟩ := Int.eq_ofNat_of_zero_le (show 0 ≤ x by omega)
  exact h.put x (by omega) d
theorem PtrHas.put {D : DataW Unit} {P : Pt} (h : PtrHas D P) (x : Int) (hx : 1 ≤ x ∧ x ≤ 8) (v : Option Nat) (hv : v.isSome = true) : PtrHas (D.put (.int .i64 x) (.lit (.int .i64 (ptI v)))) (updP P x v) :=
  ⟨fun y => by
    by_cases e : y = x
    · subst e; rw [updP_same, atKey_put_same h.frames.isMap (isKeyI _ (by omega))]
    · rw [updP_other _ _ _ e, atKey_put_other (lit_ne e), h.at_],
   fun y => by
    by_cases e : y = x
    · subst e; rw [updP_same, has_put_same h.frames.isMap (isKeyI _ (by omega)), hv]
    · rw [updP_other _ _ _ e, has_put_other (lit_ne e), h.has_], h.frames.putI x hx _⟩
theorem PtrHas.del {D : DataW Unit} {P : Pt} (h : PtrHas D P) (x : Int) : PtrHas (D.del (.int .i64 x)) (updP P x none) :=
  ⟨fun y => by
    by_cases e : y = x
    · subst e; rw [updP_same, atKey_del_same]; rfl
    · rw [updP_other _ _ _ e, atKey_del_other (lit_ne e), h.at_],
   fun y => by
    by_cases e : y = x
    · subst e; rw [updP_same, has_del_same]; rfl
    · rw [updP_other _ _ _ e, has_del_other (lit_ne e), h.has_], h.frames.del _⟩
def PtrsAt (w : World) (m : Nat) (P : Pt) : Prop := ∃ (D : DataW Unit) (k : Nat), w.ownsMap Try.prog 3 ptrElem m k D ∧ k ≤ 1024 ∧ PtrHas D P
theorem ptr_tight {w : World} {b k : Nat} {D : DataW Unit} (h : w.ownsMap Try.prog 3 ptrElem b k D) (m : Nat) (hm : Maps.size D ≤ m) : w.ownsMap Try.prog 3 ptrElem b m D := by
  obtain ⟨es, clock, hb, F, _, rfl⟩ := h
  refine ⟨es, clock, hb, F, ?_, rfl⟩
  simpa [Maps.size, length_sorted] using hm
theorem PtrsAt.made (w : World) : PtrsAt (w.alloc (.map #[] 0)) w.heap.size (fun _ => none) := ⟨_, 0, World.ownsMap_made _ _ _ _, by omega, PtrHas.empty⟩
theorem PtrsAt.isMap {w : World} {b : Nat} {P : Pt} (h : PtrsAt w b P) : ∃ es clock, w.heap[b]? = some (.map es clock) := by
  obtain ⟨D, k, ⟨es, clock, hb, _⟩, _⟩ := h
  exact ⟨es, clock, hb⟩
theorem PtrsAt.lt {w : World} {b : Nat} {P : Pt} (h : PtrsAt w b P) : b < w.heap.size := by
  obtain ⟨es, clock, hb⟩ := h.isMap
  exact lt_of_block hb
theorem PtrsAt.same {w w' : World} {b : Nat} {P : Pt} (h : PtrsAt w b P) (e : w'.heap[b]? = w.heap[b]?) : PtrsAt w' b P := by
  obtain ⟨D, k, ⟨es, clock, hb, r⟩, hk, hr⟩ := h
  exact ⟨D, k, ⟨es, clock, e.trans hb, r⟩, hk, hr⟩
section
variable (w : World) {ops : Array Oper} {rest : List Oper} {o : Oper} {a : Act} {Q : Exit → Act → World → Prop}
end

/-- The blocks that calls may change. -/
def bB (m : Nat) (P : Pt) (k : Nat) : Prop := k = m ∨ ∃ id, P id = some k
/-- There is no budget: none, or one that nobody made. -/
def NoBud (w : World) (p : Option Addr) : Prop := p = none ∨ ∃ b, p = some ⟨b, 0, none⟩ ∧ w.cell? ⟨b, 0, none⟩ = some (.map none)
end Go.Proofs.Ytbmiodkdoacbeaa
