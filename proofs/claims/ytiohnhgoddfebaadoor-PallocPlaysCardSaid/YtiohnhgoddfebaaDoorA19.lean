/- The document's own pool in memory; the contracts of its in, Owner, Refs, Left. Conditions: the pool lies as its New lays it. -/
import Derived.Test.YtiohnhgoddfebaaDoorA18
import Derived.Test.YtiohnhgoddfebaaDoorA12
namespace Go.Proofs.YtiohnhgoddfebaaDoor
open Go.RowKit
set_option maxRecDepth 100000

def refsV (n : Nat) (R : Nat → Nat) : Array Value := ((List.range n).map fun i => Value.int .i64 (R i : Int)).toArray
theorem refsV_get (n : Nat) (R : Nat → Nat) (i : Nat) (h : i < n) : (refsV n R)[i]? = some (.int .i64 (R i : Int)) := by simp [refsV, h]
theorem refsV_size (n : Nat) (R : Nat → Nat) : (refsV n R).size = n := by simp [refsV]
theorem refsV_set (n : Nat) (R : Nat → Nat) (x c : Nat) (h : x < n) : (refsV n R).setIfInBounds x (.int .i64 (c : Int)) = refsV n (upd R x c) := by
  apply Array.ext_getElem?
  intro i
  rw [Array.getElem?_setIfInBounds]
  by_cases hi : i < n
  · by_cases e : x = i
    · subst e; rw [if_pos rfl, if_pos (by rw [refsV_size]; exact h), refsV_get n _ x hi, upd_same]
    · rw [if_neg e, refsV_get n R i hi, refsV_get n _ i hi, upd_other _ _ _ _ (fun e2 => e e2.symm)]
  · have e : (refsV n (upd R x c))[i]? = none := Array.getElem?_eq_none (by rw [refsV_size]; omega)
    have e2 : (refsV n R)[i]? = none := Array.getElem?_eq_none (by rw [refsV_size]; omega)
    rw [e, if_neg (by omega), e2]
def intP (P : List (Nat × Nat)) : List (Int × Int) := P.map fun p => ((p.1 : Int), (p.2 : Int))
theorem intP_length (P : List (Nat × Nat)) : (intP P).length = P.length := by simp [intP]
theorem intP_get (P : List (Nat × Nat)) (i : Nat) (h : i < P.length) : (intP P).getD i default = (((P.getD i (0, 0)).1 : Int), ((P.getD i (0, 0)).2 : Int)) := by simp [intP, List.getD_eq_getElem?_getD, h]
structure ZIx where
  rp : Nat
  rb : Nat
  qb : Nat
  base : Nat
  n : Nat
  v : Value
  P : List (Nat × Nat)
def ZIx.val (Z : ZIx) : Array Value := #[Z.v, .slice (some ⟨Z.rb, 0, none⟩) (Z.n * 32) (Z.n * 32), .slice (some ⟨Z.qb, 0, none⟩) Z.n Z.n]
structure RPoolAt (w : World) (Z : ZIx) (L : List Int) (R : Nat → Nat) : Prop where
  box : w.heap[Z.rp]? = some (.cells #[Z.v, .slice (some ⟨Z.rb, 0, none⟩) (Z.n * 32) (Z.n * 32), .slice (some ⟨Z.qb, 0, none⟩) Z.n Z.n] 37 (0, 0))
  words : w.heap[Z.rb]? = some (.cells (wordsV L) 62 (0, 0))
  len : L.length = Z.n * 32
  refs : w.heap[Z.qb]? = some (.cells (refsV Z.n R) 3 (0, 0))
  rng : PairsAt w Z.v (intP Z.P)
  lv : ∀ b, Z.v.ownBlock = some b → b < Z.base
  l1 : Z.base ≤ Z.rb
  l2 : Z.base ≤ Z.qb
  fit : FitP Z.n Z.P R
theorem RPoolAt.below {w w' : World} {Z : ZIx} {L : List Int} {R : Nat → Nat} (h : RPoolAt w Z L R) (hb : Below w.heap.size w w') : RPoolAt w' Z L R :=
  ⟨below_block hb h.box, below_block hb h.words, h.len, below_block hb h.refs, h.rng.below hb, h.lv, h.l1, h.l2, h.fit⟩
theorem RPoolAt.c0 {w : World} {Z : ZIx} {L : List Int} {R : Nat → Nat} (h : RPoolAt w Z L R) : w.cell? ⟨Z.rp, 0, none⟩ = some Z.v := by rw [cell_of_row w _ _ _ _ _ h.box]; rfl
theorem RPoolAt.c1 {w : World} {Z : ZIx} {L : List Int} {R : Nat → Nat} (h : RPoolAt w Z L R) : w.cell? ⟨Z.rp, 1, none⟩ = some (.slice (some ⟨Z.rb, 0, none⟩) (Z.n * 32) (Z.n * 32)) := by rw [cell_of_row w _ _ _ _ _ h.box]; rfl
theorem RPoolAt.c2 {w : World} {Z : ZIx} {L : List Int} {R : Nat → Nat} (h : RPoolAt w Z L R) : w.cell? ⟨Z.rp, 2, none⟩ = some (.slice (some ⟨Z.qb, 0, none⟩) Z.n Z.n) := by rw [cell_of_row w _ _ _ _ _ h.box]; rfl
theorem RPoolAt.cq {w : World} {Z : ZIx} {L : List Int} {R : Nat → Nat} (h : RPoolAt w Z L R) (i : Nat) (hi : i < Z.n) : w.cell? ⟨Z.qb, i, none⟩ = some (.int .i64 (R i : Int)) := by rw [cell_of_row w _ _ _ _ _ h.refs]; exact refsV_get _ _ _ hi
theorem RPoolAt.fq {w : World} {Z : ZIx} {L : List Int} {R : Nat → Nat} (h : RPoolAt w Z L R) (i : Nat) : w.frozen? ⟨Z.qb, i, none⟩ = false := frozen_of_row w _ i _ _ h.refs
theorem RPoolAt.row {w : World} {Z : ZIx} {L : List Int} {R : Nat → Nat} (h : RPoolAt w Z L R) (i : Nat) (hi : i < Z.P.length) : ∃ b o c f m, Z.v = .slice (some ⟨b, o, none⟩) Z.P.length c ∧ b < w.heap.size ∧ Z.P.getD i (0, 0) = (f, m) ∧ f + m ≤ 1024 ∧ w.cell? ⟨b, o + i * 2, none⟩ = some (.int .i64 (f : Int)) ∧ w.cell? ⟨b, o + i * 2 + 1, none⟩ = some (.int .i64 (m : Int)) := by
  obtain ⟨b, o, c, x, y, hv, hb, hr, h0, h1⟩ := pair_cells h.rng i (by rw [intP_length]; exact hi)
  rw [intP_length] at hv
  rw [intP_get _ _ hi] at hr
  obtain ⟨p, hp⟩ : ∃ p, Z.P.getD i (0, 0) = p := ⟨_, rfl⟩
  obtain ⟨f, m⟩ := p
  rw [hp] at hr
  cases hr
  have := (h.fit.rng i hi).2
  have := h.fit.top
  rw [hp] at *
  exact ⟨b, o, c, f, m, hv, hb, rfl, by simp only at *; omega, h0, h1⟩
theorem RPoolAt.sliceV {w : World} {Z : ZIx} {L : List Int} {R : Nat → Nat} (h : RPoolAt w Z L R) : ∃ a c, Z.v = .slice a Z.P.length c := by
  obtain ⟨a, c, hv, _⟩ := h.rng
  rw [intP_length] at hv
  exact ⟨a, c, hv⟩

theorem rin9_any (p : Nat × Nat) (x : Int) (w : World) (hp : p.1 + p.2 ≤ 1024) : Calls Tryd.prog 29 #[.agg #[.int .i64 (p.1 : Int), .int .i64 (p.2 : Int)], .int .i64 x] w fun e w' => e = .returned (.bool (inP p x)) ∧ Below w.heap.size w w' := by
  obtain ⟨f, m⟩ := p
  simp only at hp ⊢
  have HB := Lib.hid ((Below.refl w.heap.size w).alloc (Nat.le_refl _) (.cells #[.int .i64 (f : Int), .int .i64 (m : Int)] 59))
  by_cases h0 : (f : Int) ≤ x
  · have d0 : decide ((f : Int) ≤ x) = true := decide_eq_true h0
    by_cases h1 : x < (f : Int) + (m : Int)
    · have d1 : decide (x < (f : Int) + (m : Int)) = true := decide_eq_true h1
      have E : Hid (inP (f, m) x = true) := Lib.hid (by rw [inP, d0, d1]; rfl)
      go_enter Tryd.func29, Tryd.ntmps29
      go_wp2
      go_ret
      exact ⟨by rw [E.out]; rfl, HB.out⟩
    · have d1 : decide (x < (f : Int) + (m : Int)) = false := decide_eq_false h1
      have E : Hid (inP (f, m) x = false) := Lib.hid (by rw [inP, d0, d1]; rfl)
      go_enter Tryd.func29, Tryd.ntmps29
      go_wp2
      go_ret
      exact ⟨by rw [E.out]; rfl, HB.out⟩
  · have d0 : decide ((f : Int) ≤ x) = false := decide_eq_false h0
    have E : Hid (inP (f, m) x = false) := Lib.hid (by rw [inP, d0]; rfl)
    go_enter Tryd.func29, Tryd.ntmps29
    go_wp2
    go_ret
    exact ⟨by rw [E.out]; rfl, HB.out⟩
theorem rin9_is {p : Nat × Nat} {x : Int} {b : Bool} (hb : inP p x = b) (hp : p.1 + p.2 ≤ 1024) (w : World) : Calls Tryd.prog 29 #[.agg #[.int .i64 (p.1 : Int), .int .i64 (p.2 : Int)], .int .i64 x] w fun e w' => e = .returned (.bool b) ∧ Below w.heap.size w w' := by
  have := rin9_any p x w hp
  rwa [hb] at this
def ROwnRel (w : World) (P : List (Nat × Nat)) (n : Nat) (x : Int) (i : Value) (wr : World) : Prop := ∃ k : Nat, i = .int .i64 (k : Int) ∧ k ≤ n ∧ Below w.heap.size w wr ∧ ∀ j, j < k → inP (P.getD j (0, 0)) x = false
set_option maxHeartbeats 1000000 in
theorem rowner_any (Z : ZIx) (L : List Int) (R : Nat → Nat) (x : Int) (w : World) (h : RPoolAt w Z L R) : Calls Tryd.prog 34 #[.agg #[Z.v, .slice (some ⟨Z.rb, 0, none⟩) (Z.n * 32) (Z.n * 32), .slice (some ⟨Z.qb, 0, none⟩) Z.n Z.n], .int .i64 x] w fun e w' => e = .returned (.tuple #[.int .i64 (ownA Z.P x).1, .int .i64 (ownA Z.P x).2]) ∧ Below w.heap.size w w' := by
  obtain ⟨aa, cc, hv⟩ := h.sliceV
  have ROW := Lib.hid (fun i hi => h.row i hi)
  have hmany := h.fit.many
  obtain ⟨n, hn⟩ : ∃ n, n = Z.P.length := ⟨_, rfl⟩
  rw [← hn] at hv hmany
  have HN := Lib.hid hn
  rw [hv] at ROW ⊢
  have BX : Hid (∀ w', Below (w.heap.size + 1) (w.alloc (.cells #[.slice aa n cc, .slice (some ⟨Z.rb, 0, none⟩) (Z.n * 32) (Z.n * 32), .slice (some ⟨Z.qb, 0, none⟩) Z.n Z.n] 37)) w' → w'.cell? ⟨w.heap.size, 0, none⟩ = some (.slice aa n cc)) := Lib.hid (fun w' hb => by
    have := hb.cell (p := ⟨w.heap.size, 0, none⟩) (Nat.lt_succ_self _)
    rw [this, cell_of_row _ _ _ _ _ _ (heap_alloc_new w _)]; rfl)
  have B0 : Hid (Below w.heap.size w (w.alloc (.cells #[.slice aa n cc, .slice (some ⟨Z.rb, 0, none⟩) (Z.n * 32) (Z.n * 32), .slice (some ⟨Z.qb, 0, none⟩) Z.n Z.n] 37))) := Lib.hid ((Below.refl _ _).alloc (Nat.le_refl _) _)
  obtain ⟨w1, hw1⟩ : ∃ w1, w1 = w.alloc (.cells #[.slice aa n cc, .slice (some ⟨Z.rb, 0, none⟩) (Z.n * 32) (Z.n * 32), .slice (some ⟨Z.qb, 0, none⟩) Z.n Z.n] 37) := ⟨_, rfl⟩
  have SZ : Hid (w1.heap.size = w.heap.size + 1) := Lib.hid (by rw [hw1]; simp)
  rw [← hw1] at BX B0
  have HW := Lib.hid hw1
  clear hn h hv hw1
  go_enter Tryd.func34, Tryd.ntmps34
  go_wp2_with fail
  rw [← HW.out]
  go_loopw [6] (fun i wr => ROwnRel w1 Z.P n x i wr) (fun i _ => n - (intOf i).toNat)
  case atStart => exact ⟨0, rfl, Nat.zero_le _, Below.refl _ _, fun j hj => absurd hj (Nat.not_lt_zero _)⟩
  case round =>
    obtain ⟨k, rfl, hk, hB, hno⟩ := hrel
    have B := Lib.hid hB
    have NO := Lib.hid hno
    have bx := BX.out wr (hB.mono (by rw [SZ.out]; exact Nat.le_refl _))
    clear hB hno
    by_cases hlt : k < n
    · obtain ⟨b, o, c, f, m, hv, hbw, hP, hfm, e0, e1⟩ := ROW.out k (by rw [← HN.out]; exact hlt)
      obtain ⟨rfl, rfl⟩ : aa = some ⟨b, o, none⟩ ∧ cc = c := by rw [← HN.out] at hv; cases hv; exact ⟨rfl, rfl⟩
      have B2 := Lib.hid (B0.out.trans (B.out.mono B0.out.size))
      have d0 := (B2.out.cell (p := ⟨b, o + k * 2, none⟩) hbw).trans e0
      have d1 := (B2.out.cell (p := ⟨b, o + k * 2 + 1, none⟩) hbw).trans e1
      have hP' := Lib.hid hP
      obtain ⟨z, hz⟩ : ∃ z, inP (f, m) x = z := ⟨_, rfl⟩
      have Z' := Lib.hid hz
      clear hv e0 e1 hP hz
      cases z with
      | true =>
        have E : Hid (ownA Z.P x = ((k : Int), 0)) := Lib.hid (ownA_is Z.P x k (by rw [← HN.out]; exact hlt) (by rw [hP'.out]; exact Z'.out) NO.out)
        go_wp2_with (go_at_call 29; refine (rin9_is (p := (f, m)) Z'.out hfm _).mono ?_; rintro e w2 ⟨rfl, hb⟩; have B3 := Lib.hid (B2.out.trans (hb.mono B2.out.size)); clear hb)
        go_ret2
        exact ⟨by rw [E.out]; rfl, B3.out⟩
      | false =>
        have NO1 : Hid (∀ j, j < k + 1 → inP (Z.P.getD j (0, 0)) x = false) := Lib.hid (fun j hj => by
          by_cases e : j = k
          · subst e; rw [hP'.out]; exact Z'.out
          · exact NO.out j (by omega))
        go_wp2_with (go_at_call 29; refine (rin9_is (p := (f, m)) Z'.out hfm _).mono ?_; rintro e w2 ⟨rfl, hb⟩; have B3 := Lib.hid (B.out.trans (hb.mono B.out.size)); clear hb)
        go_roundw
        case rel => exact ⟨k + 1, by go_num, by omega, B3.out, NO1.out⟩
        case measure => simp [intOf]; omega
    · obtain rfl : k = n := by omega
      have E : Hid (ownA Z.P x = (0, 2)) := Lib.hid (ownA_none Z.P x (by rw [← HN.out]; exact NO.out))
      have B2 := Lib.hid (B0.out.trans (B.out.mono B0.out.size))
      go_wp2
      go_ret2
      exact ⟨by rw [E.out]; rfl, B2.out⟩
end Go.Proofs.YtiohnhgoddfebaaDoor
