/- What the document's Send and Recv do with its rings' row. Conditions: named in the theorems. -/
import Derived.Test.YtnapodeiigkebaaH29
namespace Go.Proofs.Ytnapodeiigkebaa
open Go.RowKit Go.Maps
set_option maxRecDepth 100000

theorem set_self4 (l : List Value) (k : Nat) (v : Value) (h : l[k]? = some v) : l.set k v = l := by
  refine List.ext_getElem? fun n => ?_
  rw [List.getElem?_set]
  split
  · rename_i e
    subst e
    split
    · exact h.symm
    · rename_i hn
      rw [List.getElem?_eq_none (by omega)] at h
      cases h
  · rfl
theorem own_set4 {w : World} {base k g n cap p : Nat} {e : TypeId} {xs : List Value} (h : w.ownsRow base e k (.slice (some ⟨g, 0, none⟩) n cap) n xs) (a b c d : Value) :
    ((((w.setCell ⟨g, p, none⟩ a).setCell ⟨g, p + 1, none⟩ b).setCell ⟨g, p + 2, none⟩ c).setCell ⟨g, p + 3, none⟩ d).ownsRow base e k (.slice (some ⟨g, 0, none⟩) n cap) n ((((xs.set p a).set (p + 1) b).set (p + 2) c).set (p + 3) d) := own_set (own_set (own_set (own_set h a) b) c) d
theorem only_set4 (w : World) (g p : Nat) (a b c d : Value) : Only w ((((w.setCell ⟨g, p, none⟩ a).setCell ⟨g, p + 1, none⟩ b).setCell ⟨g, p + 2, none⟩ c).setCell ⟨g, p + 3, none⟩ d) (fun j => j = g) :=
  (((Only.grown (B := fun j => j = g) (r := g) (grownBy_setCell _ _ _ _) rfl).trans (Only.grown (B := fun j => j = g) (r := g) (grownBy_setCell _ _ _ _) rfl)).trans (Only.grown (B := fun j => j = g) (r := g) (grownBy_setCell _ _ _ _) rfl)).trans (Only.grown (B := fun j => j = g) (r := g) (grownBy_setCell _ _ _ _) rfl)
section
variable {W w w' : World} {H : List Row} {cv lv : Value} {lvs : Nat → Value} {out : Nat → Nat} {T : Nat} {Q : Msgs}
/-- A ring is put back into the row. -/
theorem RChAt.set {g cap : Nat} (h : RChAt W w H cv (.slice (some ⟨g, 0, none⟩) H.length cap) lvs out T Q) (i : Nat) (hi : i < H.length) {a b : Int} {c d : Nat} (hT : H.getD i [] = [a, b, (c : Int), (d : Int)]) {lv' : Value} {Ls : List (List Int)} (hl : LsAt w lv' Ls) (hc : Ls.length ≤ c) {o T' : Nat} (ho : o ≤ T') (hTT : T ≤ T') :
    RChAt W ((((w.setCell ⟨g, i * 4, none⟩ (.int .i64 (c : Int))).setCell ⟨g, i * 4 + 1, none⟩ (.int .i64 (d : Int))).setCell ⟨g, i * 4 + 2, none⟩ lv').setCell ⟨g, i * 4 + 3, none⟩ (.int .i64 (o : Int))) H cv (.slice (some ⟨g, 0, none⟩) H.length cap) (updH lvs i lv') (updH out i o) T' (updH Q i Ls) := by
  obtain ⟨⟨cs, hcs⟩, hWg⟩ := h.block (g := g) rfl
  have on := only_set4 w g (i * 4) (.int .i64 (c : Int)) (.int .i64 (d : Int)) lv' (.int .i64 (o : Int))
  have ot : ∀ k, k = g → OtherG w k := fun k e => e ▸ ⟨cs, _, hcs, by decide, by decide⟩
  refine ⟨Only.old h.bel on h.bel.size (fun k e => by omega), h.rows, ?_, fun j hj => ?_, fun j hj => ?_, fun j => ?_, h.few⟩
  · have := own_set4 (p := i * 4) h.own (.int .i64 (c : Int)) (.int .i64 (d : Int)) lv' (.int .i64 (o : Int))
    rw [set_self4 _ (i * 4) _ (by rw [rrow_get _ _ _ (by omega), rcell_0, hT]; rfl), set_self4 _ (i * 4 + 1) _ (by rw [rrow_get _ _ _ (by omega), rcell_1, hT]; rfl), rrow_set] at this
    exact this
  · by_cases e : j = i
    · subst e; rw [updH_same, updH_same]; exact hl.only on ot
    · rw [updH_far _ _ e, updH_far _ _ e]; exact (h.ls j hj).only on ot
  · by_cases e : j = i
    · subst e
      obtain ⟨a', b', c', d', hT', h1, h2, -⟩ := h.nums j hj
      rw [hT] at hT'
      obtain ⟨rfl, rfl, h3, h4⟩ : a = a' ∧ b = b' ∧ (c : Int) = c' ∧ (d : Int) = d' := by simpa using hT'
      obtain rfl : c = c' := by omega
      obtain rfl : d = d' := by omega
      exact ⟨a, b, c, d, hT, h1, h2, by rw [updH_same]; exact hc⟩
    · obtain ⟨a', b', c', d', hT', h1, h2, h3⟩ := h.nums j hj
      exact ⟨a', b', c', d', hT', h1, h2, by rw [updH_far _ _ e]; exact h3⟩
  · by_cases e : j = i
    · subst e; rw [updH_same]; exact ho
    · rw [updH_far _ _ e]; exact Nat.le_trans (h.outs j) hTT
/-- The row is copied. -/
theorem RChAt.copied (h : RChAt W w H cv lv lvs out T Q) {lv' : Value} {B : Nat → Prop} (on : Only w w' B) (hB : ∀ k, B k → OtherG w k) (hn : ∀ k, B k → W.heap.size ≤ k) (ho : w'.ownsRow W.heap.size 83 4 lv' H.length (rrow H lvs out (H.length * 4))) : RChAt W w' H cv lv' lvs out T Q :=
  ⟨Only.old h.bel on h.bel.size hn, h.rows, ho, fun i hi => (h.ls i hi).only on hB, h.nums, h.outs, h.few⟩
/-- One ring, in a variable of its own. -/
theorem RChAt.lone (h : RChAt W w H cv lv lvs out T Q) (hT300 : T ≤ 300) (i : Nat) (hi : i < H.length) {a b : Int} {c d : Nat} (hT : H.getD i [] = [a, b, (c : Int), (d : Int)]) : RefAt (w.alloc (.cells (refA c d (out i) (lvs i)) 83)) w.heap.size c d (out i) (lvs i) (Q i) := by
  obtain ⟨a', b', c', d', hT', h1, h2, h3⟩ := h.nums i hi
  rw [hT] at hT'
  obtain ⟨rfl, rfl, h4, h5⟩ : a = a' ∧ b = b' ∧ (c : Int) = c' ∧ (d : Int) = d' := by simpa using hT'
  obtain rfl : c = c' := by omega
  obtain rfl : d = d' := by omega
  exact ⟨h1.1, h1.2, h2.2, h3, by have := h.outs i; omega, (h.ls i hi).below (below_step1 _ _), heap_alloc_new w _⟩
end
/-- Send, whatever the message: what it answers, and which messages there are then. -/
theorem rsend_all {c d o : Nat} {Ls : List (List Int)} (hc : Ls.length ≤ c) (M : List Int) (a : Option Addr) (cl : Nat) : ∃ (er : Int) (Ls' : List (List Int)), er = (if 1 ≤ M.length ∧ M.length ≤ d then (if Ls.length < c then 0 else 12) else 2) ∧ Ls' = (if er = 0 then Ls ++ [M] else Ls) ∧ Ls'.length ≤ c ∧
    ∀ V rb lv, RefAt V rb c d o lv Ls → RowAt V (.slice a M.length cl) M → Calls Try.prog 59 #[.pointer (some ⟨rb, 0, none⟩), .slice a M.length cl] V fun e w' => ∃ lv', e = .returned (.int .i64 er) ∧ RefAt w' rb c d o lv' Ls' ∧ Only V w' (fun j => j = rb) := by
  by_cases h1 : 1 ≤ M.length ∧ M.length ≤ d
  · by_cases h2 : Ls.length < c
    · exact ⟨0, Ls ++ [M], by rw [if_pos h1, if_pos h2], by rw [if_pos rfl], by rw [List.length_append]; exact h2, fun V rb lv R hM => rsendG_ok R h2 _ M hM h1⟩
    · exact ⟨12, Ls, by rw [if_pos h1, if_neg h2], by rw [if_neg (by decide)], hc, fun V rb lv R _ => (rsendG_full R (by omega) a _ cl h1).mono fun e w' ⟨he, hb⟩ => ⟨lv, he, R.below hb, Only.below hb⟩⟩
  · exact ⟨2, Ls, by rw [if_neg h1], by rw [if_neg (by decide)], hc, fun V rb lv R _ => (rsendG_bad R a _ cl (by omega)).mono fun e w' ⟨he, hb⟩ => ⟨lv, he, by rw [hb]; exact R, by rw [hb]; exact Only.refl _ _⟩⟩
/-- Recv, whatever there is. -/
theorem rrecv_all {c d o : Nat} {Ls : List (List Int)} (hc : Ls.length ≤ c) (ho : o < 300) : ∃ (er : Int) (M : List Int) (Ls' : List (List Int)) (o' : Nat), er = (if Ls = [] then 12 else 0) ∧ M = (if er = 0 then Ls.headD [] else []) ∧ Ls' = (if er = 0 then Ls.tail else Ls) ∧ Ls'.length ≤ c ∧ o' ≤ o + 1 ∧
    ∀ V rb lv, RefAt V rb c d o lv Ls → Calls Try.prog 60 #[.pointer (some ⟨rb, 0, none⟩)] V fun e w' => ∃ u lv', e = .returned (.tuple #[u, .int .i64 er]) ∧ MsgN w' u M ∧ RefAt w' rb c d o' lv' Ls' ∧ Only V w' (fun j => j = rb) := by
  cases Ls with
  | nil => exact ⟨12, [], [], o, by rw [if_pos rfl], by rw [if_neg (by decide)], by rw [if_neg (by decide)], hc, Nat.le_succ _, fun V rb lv R => (rrecvG_empty R).mono fun e w' ⟨he, hb⟩ => ⟨_, lv, he, Or.inl ⟨rfl, rfl⟩, by rw [hb]; exact R, by rw [hb]; exact Only.refl _ _⟩⟩
  | cons L Ls => exact ⟨0, L, Ls, o + 1, by rw [if_neg (by simp)], by rw [if_pos rfl]; rfl, by rw [if_pos rfl]; rfl, by simp at hc; omega, Nat.le_refl _, fun V rb lv R => (rrecvG_ok R ho).mono fun e w' ⟨u, lv', he, h1, h2, h3⟩ => ⟨u, lv', he, Or.inr h1, h2, h3⟩⟩
end Go.Proofs.Ytnapodeiigkebaa
