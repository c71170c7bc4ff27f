/- The contracts of package palloc's Owner, of, held, Refs, Left. Condition: the pool lies as New laid it, or there is none, or nobody made it. -/
import Derived.Test.YtiohnhgoddfebaaDoorA3
namespace Go.Proofs.YtiohnhgoddfebaaDoor
open Go.RowKit
set_option maxRecDepth 100000

theorem PoolAt.many {w : World} {X : PIx} {L : List Int} {R : Nat → Nat} (h : PoolAt w X L R) : X.T.length ≤ 8 := by rw [← X.P_length]; exact h.fit.many
theorem inP_cases (f m : Nat) (x : Int) : (inP (f, m) x = false ∧ (x < f ∨ ((f : Int) ≤ x ∧ (m : Int) ≤ x - f))) ∨ (inP (f, m) x = true ∧ (f : Int) ≤ x ∧ x - f < m) := by
  cases h : inP (f, m) x with
  | true =>
    have := (inP_iff _ _).1 h
    exact Or.inr ⟨rfl, this.1, by have := this.2; simp only at this; omega⟩
  | false =>
    refine Or.inl ⟨rfl, ?_⟩
    have : ¬ ((f : Int) ≤ x ∧ x < (f : Int) + (m : Int)) := fun e => by rw [(inP_iff (f, m) x).2 e] at h; cases h
    omega
def OwnRel (w : World) (P : List (Nat × Nat)) (n : Nat) (x : Int) (i : Value) (wr : World) : Prop := ∃ k : Nat, i = .int .i64 (k : Int) ∧ k ≤ n ∧ Below w.heap.size w wr ∧ ∀ j, j < k → inP (P.getD j (0, 0)) x = false
set_option maxHeartbeats 2000000 in
theorem owner_any (X : PIx) (L : List Int) (R : Nat → Nat) (x : Int) (w : World) (h : PoolAt w X L R) (hx : -9223372036854775808 ≤ x ∧ x ≤ 9223372036854775807) : Calls Tryd.prog 19 #[.pointer (some ⟨X.pb, 0, none⟩), .int .i64 x] w fun e w' => e = .returned (.tuple #[.int .i64 (ownA X.P x).1, .int .i64 (ownA X.P x).2]) ∧ Below w.heap.size w w' := by
  have c0 := h.c0
  have c1 := h.c1
  have PT := Lib.hid h.parts
  have FT := Lib.hid h.fit
  have hmany := h.many
  have PG : Hid (∀ i, i < X.T.length → X.P.getD i (0, 0) = (X.T.getD i default).2) := Lib.hid (fun i hi => P_get X.T i hi)
  have PL := Lib.hid X.P_length
  obtain ⟨aa, cc, hv⟩ := owns_slice h.parts
  generalize X.T = T at *
  generalize X.P = P at *
  rw [hv] at c1 PT
  obtain ⟨n, hn⟩ : ∃ n, n = T.length := ⟨_, rfl⟩
  rw [← hn] at c1 hmany
  have HN := Lib.hid hn
  have C0 := Lib.hid c0
  clear h hv hn c0
  go_enter Tryd.func19, Tryd.ntmps19
  go_wp2_with (go_at_call 43; refine (pool_there _ _ _ C0.out).mono ?_; rintro e w' ⟨rfl, rfl⟩)
  go_loopw [16] (fun i wr => OwnRel w P n x i wr) (fun i _ => n - (intOf i).toNat)
  case atStart => exact ⟨0, rfl, Nat.zero_le _, Below.refl _ _, fun j hj => absurd hj (Nat.not_lt_zero _)⟩
  case round =>
    obtain ⟨k, rfl, hk, hB, hno⟩ := hrel
    have B := Lib.hid hB
    have NO := Lib.hid hno
    clear hB hno
    by_cases hlt' : k < n
    · obtain ⟨g, c, s, f, m, hg, hgw, hrow, e0, e1, e2⟩ := stock_row PT.out k (by have := HN.out; omega)
      obtain ⟨rfl, rfl⟩ : aa = some ⟨g, 0, none⟩ ∧ cc = c := by cases hg; exact ⟨rfl, rfl⟩
      have d0 := (B.out.cell (p := ⟨g, k * 3, none⟩) hgw).trans e0
      have d1 := (B.out.cell (p := ⟨g, k * 3 + 1, none⟩) hgw).trans e1
      have d2 := (B.out.cell (p := ⟨g, k * 3 + 2, none⟩) hgw).trans e2
      have hfm : f + m ≤ 1024 := by
        have h1 := (FT.out.rng k (by rw [PL.out, ← HN.out]; exact hlt')).2
        rw [PG.out k (by rw [← HN.out]; exact hlt'), hrow] at h1
        have := FT.out.top
        simp only at h1
        omega
      have ROW : Hid (P.getD k (0, 0) = (f, m)) := Lib.hid (by rw [PG.out k (by rw [← HN.out]; exact hlt'), hrow])
      clear e0 e1 e2 hrow hg
      rcases inP_cases f m x with ⟨hi, hway⟩ | ⟨hi, h1, h2⟩
      · have NO1 : Hid (∀ j, j < k + 1 → inP (P.getD j (0, 0)) x = false) := Lib.hid (fun j hj => by
          by_cases e : j = k
          · subst e; rw [ROW.out]; exact hi
          · exact NO.out j (by omega))
        have B1 := Lib.hid (B.out.alloc B.out.size (.cells #[.pointer (some ⟨s, 0, none⟩), .int .i64 (f : Int), .int .i64 (m : Int)] 91))
        rcases hway with h1 | ⟨h1, h2⟩
        · have q1 : decide ((f : Int) ≤ x) = false := decide_eq_false (by omega)
          go_wp2
          go_roundw
          case rel => exact ⟨k + 1, by go_num, by omega, B1.out, NO1.out⟩
          case measure => simp [intOf]; omega
        · have q1 : decide ((f : Int) ≤ x) = true := decide_eq_true h1
          have q2 : decide (x - (f : Int) < (m : Int)) = false := decide_eq_false (by omega)
          go_wp2
          go_roundw
          case rel => exact ⟨k + 1, by go_num, by omega, B1.out, NO1.out⟩
          case measure => simp [intOf]; omega
      · have q1 : decide ((f : Int) ≤ x) = true := decide_eq_true h1
        have q2 : decide (x - (f : Int) < (m : Int)) = true := decide_eq_true h2
        have E : Hid (ownA P x = ((k : Int), 0)) := Lib.hid (ownA_is P x k (by rw [PL.out, ← HN.out]; exact hlt') (by rw [ROW.out]; exact hi) NO.out)
        have B1 := Lib.hid (B.out.alloc B.out.size (.cells #[.pointer (some ⟨s, 0, none⟩), .int .i64 (f : Int), .int .i64 (m : Int)] 91))
        go_wp2
        go_ret2
        exact ⟨by rw [E.out]; rfl, B1.out⟩
    · obtain rfl : k = n := by omega
      have E : Hid (ownA P x = (0, 2)) := Lib.hid (ownA_none P x (by rw [PL.out, ← HN.out]; exact NO.out))
      go_wp2
      go_ret2
      exact ⟨by rw [E.out]; rfl, B.out⟩
theorem owner_no (p : Option Addr) (x : Int) (w : World) (h : NoPool w p) : Calls Tryd.prog 19 #[.pointer p, .int .i64 x] w fun e w' => e = .returned (.tuple #[.int .i64 0, .int .i64 1]) ∧ w = w' := by
  have H := Lib.hid h
  clear h
  go_enter Tryd.func19, Tryd.ntmps19
  go_wp2_with (go_at_call 43; refine (pool_no p _ H.out).mono ?_; rintro e w' ⟨rfl, rfl⟩)
  go_ret2
  exact ⟨rfl, rfl⟩

theorem stockInfo : (Tryd.prog.info? 91).map (fun i => (i.zero, i.size)) = some (some (.agg #[.pointer none, .int .i64 0, .int .i64 0]), 3) := by kernel_rfl
theorem stockZero (w : World) : (zeroValue 91).run Tryd.prog w = .ok (.agg #[.pointer none, .int .i64 0, .int .i64 0]) w := (zero_of_info stockInfo).1 w
theorem of_no (p : Option Addr) (k : Int) (w : World) (h : NoPool w p) : Calls Tryd.prog 40 #[.pointer p, .int .i64 k] w fun e w' => e = .returned (.tuple #[.agg #[.pointer none, .int .i64 0, .int .i64 0], .int .i64 1]) ∧ Below w.heap.size w w' := by
  have hz := stockZero
  have H := Lib.hid h
  clear h
  go_enter Tryd.func40, Tryd.ntmps40
  go_wp2_with (go_at_call 43; refine (pool_no p _ (H.out.below ((Below.refl _ _).alloc (Nat.le_refl _) _))).mono ?_; rintro e w' ⟨rfl, rfl⟩)
  refine bodyPost_ret (v := .tuple #[.agg #[.pointer none, .int .i64 0, .int .i64 0], .int .i64 1]) (by simp [results, Tryd.results40, go_sem]) rfl ?_
  exact ⟨rfl, (Below.refl _ _).alloc (Nat.le_refl _) _⟩
theorem of_bad (X : PIx) (L : List Int) (R : Nat → Nat) (k : Int) (w : World) (h : PoolAt w X L R) (hk : partB X.P k = false) : Calls Tryd.prog 40 #[.pointer (some ⟨X.pb, 0, none⟩), .int .i64 k] w fun e w' => e = .returned (.tuple #[.agg #[.pointer none, .int .i64 0, .int .i64 0], .int .i64 2]) ∧ Below w.heap.size w w' := by
  have hz := stockZero
  obtain ⟨aa, cc, hv⟩ := owns_slice h.parts
  have hB := (Below.refl w.heap.size w).alloc (Nat.le_refl _) (.cells #[.pointer none, .int .i64 0, .int .i64 0] 91)
  have h1 := h.below hB
  have c0 := Lib.hid h1.c0
  have c1 := h1.c1
  have hmany := h.many
  have hk' : k < 0 ∨ (0 ≤ k ∧ (X.T.length : Int) ≤ k) := by
    have : ¬ partB X.P k = true := by rw [hk]; exact Bool.false_ne_true
    rw [partB_iff, X.P_length] at this
    omega
  rw [hv] at c1
  generalize X.T.length = n at *
  have B := Lib.hid hB
  clear h h1 hv hk hB
  rcases hk' with hk | ⟨hk, hk2⟩
  · have q1 : decide (k < 0) = true := decide_eq_true hk
    go_enter Tryd.func40, Tryd.ntmps40
    go_wp2_with (go_at_call 43; refine (pool_there _ _ _ c0.out).mono ?_; rintro e w' ⟨rfl, rfl⟩)
    refine bodyPost_ret (v := .tuple #[.agg #[.pointer none, .int .i64 0, .int .i64 0], .int .i64 2]) (by simp [results, Tryd.results40, go_sem]) rfl ?_
    exact ⟨rfl, B.out⟩
  · have q1 : decide (k < 0) = false := decide_eq_false (by omega)
    have q2 : decide ((n : Int) ≤ k) = true := decide_eq_true hk2
    go_enter Tryd.func40, Tryd.ntmps40
    go_wp2_with (go_at_call 43; refine (pool_there _ _ _ c0.out).mono ?_; rintro e w' ⟨rfl, rfl⟩)
    refine bodyPost_ret (v := .tuple #[.agg #[.pointer none, .int .i64 0, .int .i64 0], .int .i64 2]) (by simp [results, Tryd.results40, go_sem]) rfl ?_
    exact ⟨rfl, B.out⟩
theorem of_ok (X : PIx) (L : List Int) (R : Nat → Nat) (k s f m : Nat) (w : World) (h : PoolAt w X L R) (hk : k < X.T.length) (hrow : X.T.getD k default = (s, (f, m))) : Calls Tryd.prog 40 #[.pointer (some ⟨X.pb, 0, none⟩), .int .i64 (k : Int)] w fun e w' => e = .returned (.tuple #[.agg #[.pointer (some ⟨s, 0, none⟩), .int .i64 (f : Int), .int .i64 (m : Int)], .int .i64 0]) ∧ Below w.heap.size w w' := by
  have hz := stockZero
  have hB := (Below.refl w.heap.size w).alloc (Nat.le_refl _) (.cells #[.pointer none, .int .i64 0, .int .i64 0] 91)
  have h1 := h.below hB
  have c0 := Lib.hid h1.c0
  have c1 := h1.c1
  have hmany := h.many
  obtain ⟨g, c, s', f', m', hv, hgw, hrow', e0, e1, e2⟩ := stock_row h1.parts k hk
  obtain ⟨rfl, rfl, rfl⟩ : s' = s ∧ f' = f ∧ m' = m := by rw [hrow] at hrow'; cases hrow'; exact ⟨rfl, rfl, rfl⟩
  obtain ⟨_, _, _, _, _, hv', hg', _⟩ := stock_row h.parts k hk
  have hgb : g ≠ w.heap.size := by
    rw [hv] at hv'; cases hv'
    omega
  rw [hv] at c1
  generalize X.T.length = n at *
  have q1 : decide ((k : Int) < 0) = false := decide_eq_false (by omega)
  have q2 : decide ((n : Int) ≤ (k : Int)) = false := decide_eq_false (by omega)
  clear h h1 hv hrow hrow' hB hv' hg' hgw
  go_enter Tryd.func40, Tryd.ntmps40
  go_wp2_with (go_at_call 43; refine (pool_there _ _ _ c0.out).mono ?_; rintro e w' ⟨rfl, rfl⟩)
  refine bodyPost_ret (v := .tuple #[.agg #[.pointer (some ⟨s', 0, none⟩), .int .i64 (f' : Int), .int .i64 (m' : Int)], .int .i64 0]) (by simp [results, Tryd.results40, go_sem]) rfl ?_
  exact ⟨rfl, (Below.refl _ _).alloc (Nat.le_refl _) _⟩
end Go.Proofs.YtiohnhgoddfebaaDoor
