/- What one call does with a ring and the document's. Condition: both rings lie in memory and agree. -/
import Derived.Test.YtolefcbhiajbbaaG16
import Derived.Test.YtolefcbhiajbbaaG13
namespace Go.Proofs.Ytolefcbhiajbbaa
open Go.RowKit
set_option maxRecDepth 100000

theorem begG_mod (c d out k : Nat) : begG c d (out % c) k = begG c d out k := by unfold begG; rw [Nat.mod_add_mod]
theorem begG_apart {c d out i k : Nat} (hi : i < k) (hk : k < c) : begG c d out i + (d + 1) ≤ begG c d out k ∨ begG c d out k + (d + 1) ≤ begG c d out i := by
  unfold begG
  have hne : (out + i) % c ≠ (out + k) % c := fun e => by
    have h := Nat.sub_mod_eq_zero_of_mod_eq e.symm
    rw [show out + k - (out + i) = k - i by omega, Nat.mod_eq_of_lt (by omega)] at h
    omega
  rcases Nat.lt_or_gt_of_ne hne with h | h
  · left
    calc (out + i) % c * (d + 1) + (d + 1) = ((out + i) % c + 1) * (d + 1) := by rw [Nat.succ_mul]
      _ ≤ (out + k) % c * (d + 1) := Nat.mul_le_mul_right _ h
  · right
    calc (out + k) % c * (d + 1) + (d + 1) = ((out + k) % c + 1) * (d + 1) := by rw [Nat.succ_mul]
      _ ≤ (out + i) % c * (d + 1) := Nat.mul_le_mul_right _ h
theorem msgF_out (g : Nat → Int) (at_ : Nat) (L : List Int) (n j : Nat) (h : j < at_ ∨ at_ + n < j) : msgF g at_ L n j = g j := by
  unfold msgF
  rw [if_neg (by omega), if_neg (by omega)]
theorem msgF_in (g : Nat → Int) (at_ : Nat) (L : List Int) (n j : Nat) (h : j < n) : msgF g at_ L n (at_ + (1 + j)) = L.getD j 0 := by
  unfold msgF
  rw [if_neg (by omega), if_pos (by omega), show at_ + (1 + j) - at_ - 1 = j by omega]
theorem getD_appG (Ls : List (List Int)) (L : List Int) (i : Nat) : (Ls ++ [L]).getD i [] = if i < Ls.length then Ls.getD i [] else if i = Ls.length then L else [] := by
  simp only [List.getD_eq_getElem?_getD]
  by_cases h : i < Ls.length
  · rw [List.getElem?_append_left h, if_pos h]
  · rw [List.getElem?_append_right (by omega), if_neg h]
    by_cases e : i = Ls.length
    · rw [if_pos e, e, Nat.sub_self]; rfl
    · rw [if_neg e, List.getElem?_eq_none (by simp; omega)]; rfl
theorem LieG.snoc {c d out : Nat} {g : Nat → Int} {Ls : List (List Int)} (h : LieG c d out g Ls) (L : List Int) (hL : 1 ≤ L.length ∧ L.length ≤ d) (hm : Ls.length < c) : LieG c d out (msgF g (begG c d out Ls.length) L L.length) (Ls ++ [L]) := by
  intro i hi
  rw [getD_appG]
  rw [List.length_append, List.length_singleton] at hi
  by_cases hlt : i < Ls.length
  · rw [if_pos hlt]
    obtain ⟨h1, h2, h3⟩ := h i hlt
    have ap := begG_apart (d := d) (out := out) hlt hm
    refine ⟨h1, ?_, fun n hn => ?_⟩
    · rw [msgF_out _ _ _ _ _ (by omega)]; exact h2
    · rw [msgF_out _ _ _ _ _ (by omega)]; exact h3 n hn
  · obtain rfl : i = Ls.length := by omega
    rw [if_neg hlt, if_pos rfl]
    exact ⟨hL, msgF_at _ _ _ _, fun n hn => msgF_in _ _ _ _ _ hn⟩
theorem LieG.tail {c d out : Nat} {g : Nat → Int} {L : List Int} {Ls : List (List Int)} (h : LieG c d out g (L :: Ls)) : LieG c d (out + 1) g Ls := by
  intro i hi
  have := h (i + 1) (by simp; omega)
  rw [show begG c d out (i + 1) = begG c d (out + 1) i by unfold begG; rw [show out + (i + 1) = out + 1 + i by omega]] at this
  simpa using this
theorem LieG.head {c d out : Nat} {g : Nat → Int} {L : List Int} {Ls : List (List Int)} (h : LieG c d out g (L :: Ls)) : lenG d (g (begG c d out 0)) = L.length ∧ msgOf g (begG c d out 0) L.length = L := by
  obtain ⟨h1, h2, h3⟩ := h 0 (by simp)
  simp only [List.getD_cons_zero] at h1 h2 h3
  refine ⟨by have := lenG_is (d := d) (x := (L.length : Int)) (by omega); rw [h2]; omega, ?_⟩
  refine List.ext_getElem (by simp [msgOf]) fun i h4 h5 => ?_
  simp only [msgOf, List.getElem_map, List.getElem_range]
  rw [h3 i h5]
  simp [List.getD_eq_getElem?_getD, h5]
/-- What a call tells. -/
def MsgN (w : World) (u : Value) (M : List Int) : Prop := (u = .slice none 0 0 ∧ M = []) ∨ MsgV w u M
theorem MsgN.row {w : World} {u : Value} {M : List Int} (h : MsgN w u M) : RowAt w u M := by
  rcases h with ⟨rfl, rfl⟩ | h
  · exact ⟨none, 0, rfl, Or.inl rfl⟩
  · exact h.row
theorem MsgN.form {w : World} {u : Value} {M : List Int} (h : MsgN w u M) : ∃ a c, u = .slice a M.length c := let ⟨a, c, e, _⟩ := h.row; ⟨a, c, e⟩
theorem MsgN.only {w w' : World} {u : Value} {M : List Int} {B : Nat → Prop} (h : MsgN w u M) (ho : Only w w' B) (hB : ∀ k, B k → OtherG w k) : MsgN w' u M := by
  rcases h with h | h
  · exact Or.inl h
  · exact Or.inr (h.only ho hB)
theorem LawG.otherB {W w : World} {b kb c d f m : Nat} {g : Nat → Int} (h : LawG W w b kb c d f m g) : OtherG w b := ⟨_, _, h.r.box, by decide, by decide⟩
theorem LawG.otherK {W w : World} {b kb c d f m : Nat} {g : Nat → Int} (h : LawG W w b kb c d f m g) : OtherG w kb := let ⟨_, hk, _⟩ := h.k; ⟨_, _, hk.box, by decide, by decide⟩
/-- A ring of a law's own, and the document's. -/
structure PlG (W w : World) (b kb rb c d f m out : Nat) (g : Nat → Int) (lv : Value) (Ls : List (List Int)) : Prop where
  law : LawG W w b kb c d f m g
  ref : RefAt w rb c d out lv Ls
  rl : W.heap.size ≤ rb
  n1 : rb ≠ b
  n2 : rb ≠ kb
section
variable {W w w' : World} {b kb rb c d f m out : Nat} {g : Nat → Int} {lv : Value} {Ls : List (List Int)} (h : PlG W w b kb rb c d f m out g lv Ls)
include h
theorem PlG.step (hb : Below w.heap.size w w') : PlG W w' b kb rb c d f m out g lv Ls := ⟨h.law.step hb, h.ref.below hb, h.rl, h.n1, h.n2⟩
theorem PlG.ring {f' m' : Nat} {g' : Nat → Int} (hl : LawG W w' b kb c d f' m' g') (ho : Only w w' (fun j => j = b ∨ j = kb)) : PlG W w' b kb rb c d f' m' out g' lv Ls :=
  ⟨hl, h.ref.only ho (fun e => e.elim h.n1 h.n2) (fun _ e => e.elim (fun e => e ▸ h.law.otherB) (fun e => e ▸ h.law.otherK)), h.rl, h.n1, h.n2⟩
theorem PlG.doc {out' : Nat} {lv' : Value} {Ls' : List (List Int)} (hr : RefAt w' rb c d out' lv' Ls') (ho : Only w w' (fun j => j = rb)) : PlG W w' b kb rb c d f m out' g lv' Ls' :=
  ⟨h.law.onl ho h.n1.symm h.n2.symm (fun _ e => e ▸ h.rl), hr, h.rl, h.n1, h.n2⟩
end
/-- Send, on both sides. -/
theorem send_both (W : World) {b kb rb c d f m out : Nat} {g : Nat → Int} {Ls : List (List Int)} (hc : c ≤ 8) (hm : Ls.length = m) (hmc : m ≤ c) (hf : out % c = f) (hL : LieG c d out g Ls) (L : List Int) (a : Option Addr) (cl : Nat) (hw : ∀ x ∈ L, 0 ≤ x ∧ x ≤ 4294967295) :
    ∃ (er : Int) (m' : Nat) (g' : Nat → Int) (Ls' : List (List Int)), (∀ V, LawG W V b kb c d f m g → RowAt V (.slice a L.length cl) L → Calls Try.prog 11 #[.pointer (some ⟨b, 0, none⟩), .slice a L.length cl, putG kb] V fun e w' => e = .returned (.int .i64 er) ∧ LawG W w' b kb c d f m' g' ∧ Only V w' (fun j => j = b ∨ j = kb)) ∧
      (∀ V lv, RefAt V rb c d out lv Ls → RowAt V (.slice a L.length cl) L → Calls Try.prog 13 #[.pointer (some ⟨rb, 0, none⟩), .slice a L.length cl] V fun e w' => ∃ lv', e = .returned (.int .i64 er) ∧ RefAt w' rb c d out lv' Ls' ∧ Only V w' (fun j => j = rb)) ∧ Ls'.length = m' ∧ m' ≤ c ∧ LieG c d out g' Ls' := by
  by_cases h1 : 1 ≤ L.length ∧ L.length ≤ d
  · by_cases h2 : m < c
    · refine ⟨0, m + 1, msgF g (begG c d f m) L L.length, Ls ++ [L], fun V h M => h.send L _ M (fun x hx => by have := hw x hx; omega) h1 h2, fun V lv h M => rsendG_ok h (by omega) _ L M h1, by simp [hm], by omega, ?_⟩
      have := hL.snoc L h1 (by omega)
      rwa [hm, ← begG_mod, hf] at this
    · obtain rfl : m = c := by omega
      refine ⟨12, m, g, Ls, fun V h _ => (send_fullG h.r a _ cl _ _ _ h1).mono fun e w' ⟨he, hb⟩ => ⟨he, h.step hb, Only.below hb⟩, fun V lv h _ => (rsendG_full h hm a _ cl h1).mono fun e w' ⟨he, hb⟩ => ⟨lv, he, h.below hb, Only.below hb⟩, hm, Nat.le_refl _, hL⟩
  · refine ⟨2, m, g, Ls, fun V h _ => (send_badG h.r a _ cl _ _ _ (by omega)).mono fun e w' ⟨he, hb⟩ => ⟨he, h.step hb, Only.below hb⟩, fun V lv h _ => (rsendG_bad h a _ cl (by omega)).mono fun e w' ⟨he, hb⟩ => ⟨lv, he, by rw [hb]; exact h, by rw [hb]; exact Only.refl _ _⟩, hm, hmc, hL⟩
/-- Recv, on both sides. -/
theorem recv_both (W : World) {b kb rb c d f m out : Nat} {g : Nat → Int} {Ls : List (List Int)} (hm : Ls.length = m) (hmc : m ≤ c) (hf : out % c = f) (ho : out < 300) (hL : LieG c d out g Ls) :
    ∃ (M : List Int) (er : Int) (f' m' out' : Nat) (Ls' : List (List Int)), M.length ≤ d ∧ (∀ V, LawG W V b kb c d f m g → Calls Try.prog 14 #[.pointer (some ⟨b, 0, none⟩), getG kb] V fun e w' => ∃ u, e = .returned (.tuple #[u, .int .i64 er]) ∧ MsgN w' u M ∧ LawG W w' b kb c d f' m' g ∧ Only V w' (fun j => j = b ∨ j = kb)) ∧
      (∀ V lv, RefAt V rb c d out lv Ls → Calls Try.prog 16 #[.pointer (some ⟨rb, 0, none⟩)] V fun e w' => ∃ u lv', e = .returned (.tuple #[u, .int .i64 er]) ∧ MsgN w' u M ∧ RefAt w' rb c d out' lv' Ls' ∧ Only V w' (fun j => j = rb)) ∧ Ls'.length = m' ∧ m' ≤ c ∧ out' % c = f' ∧ out' ≤ out + 1 ∧ LieG c d out' g Ls' := by
  cases Ls with
  | nil =>
    obtain rfl : 0 = m := hm
    refine ⟨[], 12, f, 0, out, [], Nat.zero_le _, fun V h => (recv_emptyG h.r _ _ _).mono fun e w' ⟨he, hb⟩ => ⟨_, he, Or.inl ⟨rfl, rfl⟩, h.step hb, Only.below hb⟩, fun V lv h => (rrecvG_empty h).mono fun e w' ⟨he, hb⟩ => ⟨_, lv, he, Or.inl ⟨rfl, rfl⟩, by rw [hb]; exact h, by rw [hb]; exact Only.refl _ _⟩, rfl, Nat.zero_le _, hf, by omega, hL⟩
  | cons L Ls =>
    obtain ⟨k, rfl⟩ : ∃ k, m = k + 1 := ⟨Ls.length, by rw [← hm]; rfl⟩
    have hk : Ls.length = k := by simpa using hm
    obtain ⟨e1, e2⟩ := hL.head
    have e0 : begG c d f 0 = begG c d out 0 := by rw [← hf, begG_mod]
    refine ⟨L, 0, (f + 1) % c, k, out + 1, Ls, by have := (hL 0 (by simp)).1.2; simpa using this, fun V h => ?_, fun V lv h => (rrecvG_ok h ho).mono fun e w' ⟨u, lv', he, h1, h2, h3⟩ => ⟨u, lv', he, Or.inr h1, h2, h3⟩, hk, by omega, by rw [← hf, Nat.mod_add_mod], Nat.le_refl _, hL.tail⟩
    refine h.recv.mono fun e w' ⟨r, he, _, h2, h3, h4⟩ => ?_
    rw [e0, e1] at he h2
    rw [e2] at h2
    exact ⟨_, he, Or.inr ⟨r, _, rfl, h2⟩, h3, h4.mono fun _ e => Or.inl e⟩
end Go.Proofs.Ytolefcbhiajbbaa
