/- The document's reader and the program's, side by side; a script of calls. No condition. -/
import Derived.Test.YtoajgpmljelaiaaB11
import Derived.Deep.RegionHeld3
namespace Go.Proofs.Ytoajgpmljelaiaa
open Go.RowKit
set_option maxRecDepth 100000

theorem RRd.grown {w w' : World} {b r : Nat} {s : RdS} (h : RRd w r s) (hg : w.grownBy w' (some b)) (hne : b ≠ r) : RRd w' r s := by
  obtain ⟨S, a, f, h, e⟩ := h
  exact ⟨S, a, f, ⟨(hg.block r (lt_of_block h.box) (fun e => hne (Option.some.inj e).symm)).trans h.box, h.le, h.top⟩, e⟩
theorem Rd.grown {w w' : World} {b r : Nat} {s s' : RdS} (h : Rd w b s) (hr : RRd w r s') (hg : w.grownBy w' (some r)) (hne : b ≠ r) : Rd w' b s := by
  have hbox : ∀ o, w.heap[b]? = some o → w'.heap[b]? = some o := fun o ho => (hg.block b (lt_of_block ho) (fun e => hne (Option.some.inj e))).trans ho
  cases s with
  | none => exact hbox _ h
  | some l =>
    obtain ⟨g, o, c, h⟩ := h
    refine ⟨g, o, c, hbox _ h.box, ?_, h.ne, h.cap, h.top⟩
    obtain ⟨S, a, f, hr, _⟩ := hr
    by_cases hgr : g = r
    · subst hgr
      intro i hi
      exfalso
      have := h.bytes i hi
      rw [cell_of_row w g _ _ _ _ hr.box] at this
      have h3 : o + i < 3 := by have := (Array.getElem?_eq_some_iff.1 this).1; simpa using this
      rcases (show o + i = 0 ∨ o + i = 1 ∨ o + i = 2 by omega) with e | e | e <;> rw [e] at this <;> simp [strV] at this
    · exact h.bytes.grown hg hgr

/-- Both readers, and the bytes that are left of both. -/
structure Duo5 (W : World) (b r : Nat) (s : RdS) (w : World) : Prop where
  p : Rd w b s
  q : RRd w r s
  below : Below W.heap.size W w
  lb : W.heap.size ≤ b
  lr : W.heap.size ≤ r
  ne : b ≠ r
/-- Both readers, the second one's bytes other than the first one's; and a call's box. -/
structure Step5 (W : World) (bx : Nat) (d : Int) (t : List UInt8) (b r : Nat) (s s' : RdS) (w : World) : Prop where
  p : Rd w b s
  q : RRd w r s'
  below : Below W.heap.size W w
  lb : W.heap.size ≤ b
  lr : W.heap.size ≤ r
  ne : b ≠ r
  x1 : b ≠ bx
  x2 : r ≠ bx
  c : w.heap[bx]? = some (.cells #[.int .i64 d, strV t] 34 (0, 0))
section
variable {W w w' : World} {bx : Nat} {d : Int} {t : List UInt8} {b r : Nat} {s s' s2 : RdS}
theorem Step5.step (h : Step5 W bx d t b r s s' w) (k : Below w.heap.size w w') : Step5 W bx d t b r s s' w' :=
  ⟨h.p.below k, h.q.below k, h.below.trans (k.mono h.below.size), h.lb, h.lr, h.ne, h.x1, h.x2, below_block k h.c⟩
theorem Step5.put (h : Step5 W bx d t b r s s' w) (hp : Rd w' b s2) (k : w.grownBy w' (some b)) : Step5 W bx d t b r s2 s' w' :=
  ⟨hp, h.q.grown k h.ne, h.below.trans (below_of_grownBy k h.below.size h.lb), h.lb, h.lr, h.ne, h.x1, h.x2, (k.block bx (lt_of_block h.c) (fun e => h.x1 (Option.some.inj e).symm)).trans h.c⟩
theorem Step5.rput (h : Step5 W bx d t b r s s' w) (hp : RRd w' r s2) (k : w.grownBy w' (some r)) : Step5 W bx d t b r s s2 w' :=
  ⟨h.p.grown h.q k h.ne, hp, h.below.trans (below_of_grownBy k h.below.size h.lr), h.lb, h.lr, h.ne, h.x1, h.x2, (k.block bx (lt_of_block h.c) (fun e => h.x2 (Option.some.inj e).symm)).trans h.c⟩
theorem Step5.start (h : Duo5 W b r s w) (d : Int) (t : List UInt8) : Step5 W w.heap.size d t b r s s (w.alloc (.cells #[.int .i64 d, strV t] 34)) :=
  have k := (Below.refl w.heap.size w).alloc (Nat.le_refl _) (.cells #[.int .i64 d, strV t] 34)
  ⟨h.p.below k, h.q.below k, h.below.trans (k.mono h.below.size), h.lb, h.lr, h.ne, Nat.ne_of_lt h.p.lt, Nat.ne_of_lt h.q.lt, heap_alloc_new w _⟩
theorem Step5.duo (h : Step5 W bx d t b r s s w) : Duo5 W b r s w := ⟨h.p, h.q, h.below, h.lb, h.lr, h.ne⟩
theorem Step5.drew (h : Step5 W bx d t b r s s' w) : Step5 W bx d t b r s s' w.drew := h.step (Below.refl _ _).drew
theorem Step5.c0 (h : Step5 W bx d t b r s s' w) : w.cell? ⟨bx, 0, none⟩ = some (.int .i64 d) := by rw [cell_of_row w bx _ _ _ _ h.c]; rfl
theorem Step5.c1 (h : Step5 W bx d t b r s s' w) : w.cell? ⟨bx, 1, none⟩ = some (strV t) := by rw [cell_of_row w bx _ _ _ _ h.c]; rfl
end

abbrev Op5 := Int × List UInt8
/-- A slice of calls: each one's two cells. -/
def Ops5At (w : World) (v : Value) (S : List Op5) : Prop := ∃ a c, v = .slice a S.length c ∧ (∀ q ∈ S, (-9223372036854775808 ≤ q.1 ∧ q.1 ≤ 9223372036854775807) ∧ q.2.length ≤ maxLen) ∧ (S = [] ∨ ∃ b o, a = some ⟨b, o, none⟩ ∧ b < w.heap.size ∧
  ∀ i, i < S.length → w.cell? ⟨b, o + i * 2, none⟩ = some (.int .i64 (S.getD i default).1) ∧ w.cell? ⟨b, o + i * 2 + 1, none⟩ = some (strV (S.getD i default).2))
end Go.Proofs.Ytoajgpmljelaiaa
