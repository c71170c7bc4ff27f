/- The contracts of package conf's generic askAll, at its three types, and of slices.ContainsFunc at windows. Conditions: the rows lie in memory; what is asked of each has a contract. Written by gen/gen_c3.py. -/
import Derived.Test.YtepfljfaclakeaaC2
namespace Go.Proofs.Ytepfljfaclakeaa
open Go.RowKit
set_option maxRecDepth 100000

/-- A slice of rows of k numbers. -/
def RowsAt (k : Nat) (w : World) (v : Value) (S : List Row) : Prop := ∃ a c, v = .slice a S.length c ∧ S.length ≤ 1000 ∧ (∀ T ∈ S, T.length = k) ∧ (S = [] ∨ ∃ b o, a = some ⟨b, o, none⟩ ∧ b < w.heap.size ∧
  ∀ i, i < S.length → ∀ j, j < k → w.cell? ⟨b, o + i * k + j, none⟩ = some (.int .i64 ((S.getD i []).getD j 0)))
theorem RowsAt.below {k : Nat} {w w' : World} {v : Value} {S : List Row} (h : RowsAt k w v S) (hb : Below w.heap.size w w') : RowsAt k w' v S := by
  obtain ⟨a, c, rfl, ht, hT, hS⟩ := h
  refine ⟨a, c, rfl, ht, hT, ?_⟩
  rcases hS with hS | ⟨b, o, rfl, hlt, hc⟩
  · exact Or.inl hS
  · exact Or.inr ⟨b, o, rfl, Nat.lt_of_lt_of_le hlt hb.size, fun i hi j hj => (hb.cell (p := ⟨b, o + i * k + j, none⟩) hlt).trans (hc i hi j hj)⟩
theorem RowsAt.nil (k : Nat) (w : World) : RowsAt k w (.slice none 0 0) [] := ⟨none, 0, rfl, by simp, by simp, Or.inl rfl⟩
theorem getD_mem {S : List Row} {i : Nat} (h : i < S.length) : S.getD i [] ∈ S := by
  rw [List.getD_eq_getElem?_getD, List.getElem?_eq_getElem h]; exact List.getElem_mem _
theorem takeRows_all (p : Row → Bool) (S : List Row) (j : Nat) (h : j < S.length) (h1 : (S.take j).all p = true) (h2 : p (S.getD j []) = true) : (S.take (j + 1)).all p = true := by
  have e : S.getD j [] = S[j] := by simp [List.getD_eq_getElem?_getD, h]
  rw [List.take_succ_eq_append_getElem h, List.all_append, h1, ← e]
  simpa using h2
theorem not_all (p : Row → Bool) (S : List Row) (j : Nat) (h : j < S.length) (h2 : p (S.getD j []) = false) : S.all p = false := by
  cases ha : S.all p with
  | false => rfl
  | true => rw [List.all_eq_true] at ha; rw [ha _ (getD_mem h)] at h2; cases h2
theorem take_any (p : Row → Bool) (S : List Row) (j : Nat) (h : j < S.length) (h1 : (S.take j).any p = false) (h2 : p (S.getD j []) = false) : (S.take (j + 1)).any p = false := by
  have e : S.getD j [] = S[j] := by simp [List.getD_eq_getElem?_getD, h]
  rw [List.take_succ_eq_append_getElem h, List.any_append, h1, ← e]
  simpa using h2
theorem has_any (p : Row → Bool) (S : List Row) (j : Nat) (h : j < S.length) (h2 : p (S.getD j []) = true) : S.any p = true := List.any_eq_true.2 ⟨_, getD_mem h, h2⟩
theorem two_row {T : Row} (h : T.length = 2) : ∃ x y, T = [x, y] := by
  match T, h with
  | [x, y], _ => exact ⟨x, y, rfl⟩
theorem four_row {T : Row} (h : T.length = 4) : ∃ x y z t, T = [x, y, z, t] := by
  match T, h with
  | [x, y, z, t], _ => exact ⟨x, y, z, t, rfl⟩
theorem two_cells {w : World} {S : List Row} {b o : Nat} (hT : ∀ T ∈ S, T.length = 2) (hc : ∀ i, i < S.length → ∀ j, j < 2 → w.cell? ⟨b, o + i * 2 + j, none⟩ = some (.int .i64 ((S.getD i []).getD j 0))) (i : Nat) (hi : i < S.length) :
    ∃ x y, S.getD i [] = [x, y] ∧ w.cell? ⟨b, o + i * 2, none⟩ = some (.int .i64 x) ∧ w.cell? ⟨b, o + i * 2 + 1, none⟩ = some (.int .i64 y) := by
  obtain ⟨x, y, e⟩ := two_row (hT _ (getD_mem hi))
  have h0 := hc i hi 0 (by decide)
  have h1 := hc i hi 1 (by decide)
  rw [e] at h0 h1
  exact ⟨x, y, e, h0, h1⟩
theorem four_cells {w : World} {S : List Row} {b o : Nat} (hT : ∀ T ∈ S, T.length = 4) (hc : ∀ i, i < S.length → ∀ j, j < 4 → w.cell? ⟨b, o + i * 4 + j, none⟩ = some (.int .i64 ((S.getD i []).getD j 0))) (i : Nat) (hi : i < S.length) :
    ∃ x y z t, S.getD i [] = [x, y, z, t] ∧ w.cell? ⟨b, o + i * 4, none⟩ = some (.int .i64 x) ∧ w.cell? ⟨b, o + i * 4 + 1, none⟩ = some (.int .i64 y) ∧ w.cell? ⟨b, o + i * 4 + 2, none⟩ = some (.int .i64 z) ∧ w.cell? ⟨b, o + i * 4 + 3, none⟩ = some (.int .i64 t) := by
  obtain ⟨x, y, z, t, e⟩ := four_row (hT _ (getD_mem hi))
  have h0 := hc i hi 0 (by decide)
  have h1 := hc i hi 1 (by decide)
  have h2 := hc i hi 2 (by decide)
  have h3 := hc i hi 3 (by decide)
  rw [e] at h0 h1 h2 h3
  exact ⟨x, y, z, t, e, h0, h1, h2, h3⟩
def AskRel (w : World) (p : Row → Bool) (S : List Row) (n : Nat) (i : Value) (wr : World) : Prop := ∃ j : Nat, i = .int .i64 (j : Int) ∧ j ≤ n ∧ Below w.heap.size w wr ∧ (S.take j).all p = true

set_option maxHeartbeats 1000000 in
theorem askAll_part (g : Nat) (caps : Array Value) (hent : ∀ (args : Array Value) (W : World), (callFunc g args).run Try.prog W = .ok (.enter g args) W) (p : Row → Bool) (lo hi : Int) (v : Value) (S : List Row) (w : World) (h : RowsAt 2 w v S)
    (hp : ∀ (W : World) (x y : Int), Below w.heap.size w W → Calls Try.prog g (#[.agg #[.int .i64 x, .int .i64 y]] ++ caps) W fun e w' => e = .returned (.bool (p [x, y])) ∧ Below W.heap.size W w') :
    Calls Try.prog 45 #[v, .int .i64 lo, .int .i64 hi, .func (.func g) #[] caps] w fun e w' => e = endE (inB S.length lo hi && S.all p) 2 ∧ Below w.heap.size w w' := by
  obtain ⟨a, c, rfl, ht, hT, hS⟩ := h
  obtain ⟨n, hn⟩ : ∃ n, n = S.length := ⟨_, rfl⟩
  rw [← hn] at ht ⊢
  have HN := Lib.hid hn
  have HS := Lib.hid hS
  have HT := Lib.hid hT
  have HP := Lib.hid hp
  clear hn hS hT hp
  go_enter Try.func45, Try.ntmps45
  go_wp2_with fail
  refine (within_ok _ _ _ _).mono ?_
  rintro e w1 ⟨rfl, rfl⟩
  cases hb : inB (n : Int) lo hi with
  | false =>
    go_wp2_with fail
    refine (must_no _ _).mono ?_
    rintro e w1 ⟨rfl, rfl⟩
    exact ⟨rfl, by rw [hb]; rfl, Below.refl _ _⟩
  | true =>
    go_wp2_with fail
    refine (must_yes _ _).mono ?_
    rintro e w1 ⟨rfl, rfl⟩
    go_wp2_with fail
    go_loopw [18] (fun i wr => AskRel w p S n i wr) (fun i _ => (n - (intOf i).toNat))
    case atStart => exact ⟨0, rfl, Nat.zero_le _, Below.refl _ _, by simp⟩
    case round =>
      obtain ⟨j, rfl, hj, hB, hall⟩ := hrel
      have B := Lib.hid hB
      have ALL := Lib.hid hall
      clear hB hall
      by_cases hlt' : j < n
      · obtain ⟨b, o, rfl, hlt, hc⟩ := HS.out.resolve_left (by intro e; have := HN.out; rw [e] at this; simp at this; omega)
        obtain ⟨x, y, hrow, c0, c1⟩ := two_cells HT.out hc j (by have := HN.out; omega)
        have d0 := (B.out.cell (p := ⟨b, o + j * 2, none⟩) hlt).trans c0
        have d1 := (B.out.cell (p := ⟨b, o + j * 2 + 1, none⟩) hlt).trans c1
        have ROW := Lib.hid hrow
        clear hc c0 c1 hrow
        go_wp2_with fail
        refine (HP.out _ x y (B.out.alloc B.out.size _)).mono ?_
        rintro e w1 ⟨rfl, hb1⟩
        have B1 := Lib.hid ((B.out.alloc B.out.size (.cells #[.int .i64 x, .int .i64 y] 42)).trans (hb1.mono (by have := B.out.size; simp; omega)))
        clear hb1
        cases hpr : p [x, y] with
        | false =>
          go_wp2_with fail
          refine (must_no _ _).mono ?_
          rintro e w2 ⟨rfl, rfl⟩
          exact ⟨rfl, by rw [hb, not_all p S j (by have := HN.out; omega) (by rw [ROW.out]; exact hpr)]; rfl, B1.out⟩
        | true =>
          have ALL1 := Lib.hid (takeRows_all p S j (by have := HN.out; omega) ALL.out (by rw [ROW.out]; exact hpr))
          go_wp2_with fail
          refine (must_yes _ _).mono ?_
          rintro e w2 ⟨rfl, rfl⟩
          go_wp2
          go_roundw
          case rel => exact ⟨j + 1, by go_num, by omega, B1.out, ALL1.out⟩
          case measure => simp [intOf]; omega
      · obtain rfl : j = n := by omega
        have e : S.all p = true := by have := ALL.out; rwa [HN.out, List.take_length] at this
        clear hlt'
        go_wp2
        go_end0
        exact ⟨by rw [hb, e]; rfl, B.out⟩

set_option maxHeartbeats 1000000 in
theorem askAll_win (g : Nat) (caps : Array Value) (hent : ∀ (args : Array Value) (W : World), (callFunc g args).run Try.prog W = .ok (.enter g args) W) (p : Row → Bool) (lo hi : Int) (v : Value) (S : List Row) (w : World) (h : RowsAt 2 w v S)
    (hp : ∀ (W : World) (x y : Int), Below w.heap.size w W → Calls Try.prog g (#[.agg #[.int .i64 x, .int .i64 y]] ++ caps) W fun e w' => e = .returned (.bool (p [x, y])) ∧ Below W.heap.size W w') :
    Calls Try.prog 47 #[v, .int .i64 lo, .int .i64 hi, .func (.func g) #[] caps] w fun e w' => e = endE (inB S.length lo hi && S.all p) 2 ∧ Below w.heap.size w w' := by
  obtain ⟨a, c, rfl, ht, hT, hS⟩ := h
  obtain ⟨n, hn⟩ : ∃ n, n = S.length := ⟨_, rfl⟩
  rw [← hn] at ht ⊢
  have HN := Lib.hid hn
  have HS := Lib.hid hS
  have HT := Lib.hid hT
  have HP := Lib.hid hp
  clear hn hS hT hp
  go_enter Try.func47, Try.ntmps47
  go_wp2_with fail
  refine (within_ok _ _ _ _).mono ?_
  rintro e w1 ⟨rfl, rfl⟩
  cases hb : inB (n : Int) lo hi with
  | false =>
    go_wp2_with fail
    refine (must_no _ _).mono ?_
    rintro e w1 ⟨rfl, rfl⟩
    exact ⟨rfl, by rw [hb]; rfl, Below.refl _ _⟩
  | true =>
    go_wp2_with fail
    refine (must_yes _ _).mono ?_
    rintro e w1 ⟨rfl, rfl⟩
    go_wp2_with fail
    go_loopw [18] (fun i wr => AskRel w p S n i wr) (fun i _ => (n - (intOf i).toNat))
    case atStart => exact ⟨0, rfl, Nat.zero_le _, Below.refl _ _, by simp⟩
    case round =>
      obtain ⟨j, rfl, hj, hB, hall⟩ := hrel
      have B := Lib.hid hB
      have ALL := Lib.hid hall
      clear hB hall
      by_cases hlt' : j < n
      · obtain ⟨b, o, rfl, hlt, hc⟩ := HS.out.resolve_left (by intro e; have := HN.out; rw [e] at this; simp at this; omega)
        obtain ⟨x, y, hrow, c0, c1⟩ := two_cells HT.out hc j (by have := HN.out; omega)
        have d0 := (B.out.cell (p := ⟨b, o + j * 2, none⟩) hlt).trans c0
        have d1 := (B.out.cell (p := ⟨b, o + j * 2 + 1, none⟩) hlt).trans c1
        have ROW := Lib.hid hrow
        clear hc c0 c1 hrow
        go_wp2_with fail
        refine (HP.out _ x y (B.out.alloc B.out.size _)).mono ?_
        rintro e w1 ⟨rfl, hb1⟩
        have B1 := Lib.hid ((B.out.alloc B.out.size (.cells #[.int .i64 x, .int .i64 y] 47)).trans (hb1.mono (by have := B.out.size; simp; omega)))
        clear hb1
        cases hpr : p [x, y] with
        | false =>
          go_wp2_with fail
          refine (must_no _ _).mono ?_
          rintro e w2 ⟨rfl, rfl⟩
          exact ⟨rfl, by rw [hb, not_all p S j (by have := HN.out; omega) (by rw [ROW.out]; exact hpr)]; rfl, B1.out⟩
        | true =>
          have ALL1 := Lib.hid (takeRows_all p S j (by have := HN.out; omega) ALL.out (by rw [ROW.out]; exact hpr))
          go_wp2_with fail
          refine (must_yes _ _).mono ?_
          rintro e w2 ⟨rfl, rfl⟩
          go_wp2
          go_roundw
          case rel => exact ⟨j + 1, by go_num, by omega, B1.out, ALL1.out⟩
          case measure => simp [intOf]; omega
      · obtain rfl : j = n := by omega
        have e : S.all p = true := by have := ALL.out; rwa [HN.out, List.take_length] at this
        clear hlt'
        go_wp2
        go_end0
        exact ⟨by rw [hb, e]; rfl, B.out⟩

set_option maxHeartbeats 1000000 in
theorem askAll_chan (g : Nat) (caps : Array Value) (hent : ∀ (args : Array Value) (W : World), (callFunc g args).run Try.prog W = .ok (.enter g args) W) (p : Row → Bool) (lo hi : Int) (v : Value) (S : List Row) (w : World) (h : RowsAt 4 w v S)
    (hp : ∀ (W : World) (x y z t : Int), Below w.heap.size w W → Calls Try.prog g (#[.agg #[.int .i64 x, .int .i64 y, .int .i64 z, .int .i64 t]] ++ caps) W fun e w' => e = .returned (.bool (p [x, y, z, t])) ∧ Below W.heap.size W w') :
    Calls Try.prog 49 #[v, .int .i64 lo, .int .i64 hi, .func (.func g) #[] caps] w fun e w' => e = endE (inB S.length lo hi && S.all p) 2 ∧ Below w.heap.size w w' := by
  obtain ⟨a, c, rfl, ht, hT, hS⟩ := h
  obtain ⟨n, hn⟩ : ∃ n, n = S.length := ⟨_, rfl⟩
  rw [← hn] at ht ⊢
  have HN := Lib.hid hn
  have HS := Lib.hid hS
  have HT := Lib.hid hT
  have HP := Lib.hid hp
  clear hn hS hT hp
  go_enter Try.func49, Try.ntmps49
  go_wp2_with fail
  refine (within_ok _ _ _ _).mono ?_
  rintro e w1 ⟨rfl, rfl⟩
  cases hb : inB (n : Int) lo hi with
  | false =>
    go_wp2_with fail
    refine (must_no _ _).mono ?_
    rintro e w1 ⟨rfl, rfl⟩
    exact ⟨rfl, by rw [hb]; rfl, Below.refl _ _⟩
  | true =>
    go_wp2_with fail
    refine (must_yes _ _).mono ?_
    rintro e w1 ⟨rfl, rfl⟩
    go_wp2_with fail
    go_loopw [18] (fun i wr => AskRel w p S n i wr) (fun i _ => (n - (intOf i).toNat))
    case atStart => exact ⟨0, rfl, Nat.zero_le _, Below.refl _ _, by simp⟩
    case round =>
      obtain ⟨j, rfl, hj, hB, hall⟩ := hrel
      have B := Lib.hid hB
      have ALL := Lib.hid hall
      clear hB hall
      by_cases hlt' : j < n
      · obtain ⟨b, o, rfl, hlt, hc⟩ := HS.out.resolve_left (by intro e; have := HN.out; rw [e] at this; simp at this; omega)
        obtain ⟨x, y, z, t, hrow, c0, c1, c2, c3⟩ := four_cells HT.out hc j (by have := HN.out; omega)
        have d0 := (B.out.cell (p := ⟨b, o + j * 4, none⟩) hlt).trans c0
        have d1 := (B.out.cell (p := ⟨b, o + j * 4 + 1, none⟩) hlt).trans c1
        have d2 := (B.out.cell (p := ⟨b, o + j * 4 + 2, none⟩) hlt).trans c2
        have d3 := (B.out.cell (p := ⟨b, o + j * 4 + 3, none⟩) hlt).trans c3
        have ROW := Lib.hid hrow
        clear hc c0 c1 c2 c3 hrow
        go_wp2_with fail
        refine (HP.out _ x y z t (B.out.alloc B.out.size _)).mono ?_
        rintro e w1 ⟨rfl, hb1⟩
        have B1 := Lib.hid ((B.out.alloc B.out.size (.cells #[.int .i64 x, .int .i64 y, .int .i64 z, .int .i64 t] 44)).trans (hb1.mono (by have := B.out.size; simp; omega)))
        clear hb1
        cases hpr : p [x, y, z, t] with
        | false =>
          go_wp2_with fail
          refine (must_no _ _).mono ?_
          rintro e w2 ⟨rfl, rfl⟩
          exact ⟨rfl, by rw [hb, not_all p S j (by have := HN.out; omega) (by rw [ROW.out]; exact hpr)]; rfl, B1.out⟩
        | true =>
          have ALL1 := Lib.hid (takeRows_all p S j (by have := HN.out; omega) ALL.out (by rw [ROW.out]; exact hpr))
          go_wp2_with fail
          refine (must_yes _ _).mono ?_
          rintro e w2 ⟨rfl, rfl⟩
          go_wp2
          go_roundw
          case rel => exact ⟨j + 1, by go_num, by omega, B1.out, ALL1.out⟩
          case measure => simp [intOf]; omega
      · obtain rfl : j = n := by omega
        have e : S.all p = true := by have := ALL.out; rwa [HN.out, List.take_length] at this
        clear hlt'
        go_wp2
        go_end0
        exact ⟨by rw [hb, e]; rfl, B.out⟩


def IdxRel (w : World) (p : Row → Bool) (S : List Row) (n : Nat) (i : Value) (wr : World) : Prop := ∃ j : Nat, i = .int .i64 (j : Int) ∧ j ≤ n ∧ Below w.heap.size w wr ∧ (S.take j).any p = false
set_option maxHeartbeats 1000000 in
theorem indexFunc_win (g : Nat) (caps : Array Value) (hent : ∀ (args : Array Value) (W : World), (callFunc g args).run Try.prog W = .ok (.enter g args) W) (p : Row → Bool) (v : Value) (S : List Row) (w : World) (h : RowsAt 2 w v S)
    (hp : ∀ (W : World) (x y : Int), Below w.heap.size w W → Calls Try.prog g (#[.agg #[.int .i64 x, .int .i64 y]] ++ caps) W fun e w' => e = .returned (.bool (p [x, y])) ∧ Below W.heap.size W w') :
    Calls Try.prog 57 #[v, .func (.func g) #[] caps] w fun e w' => ∃ r : Int, e = .returned (.int .i64 r) ∧ decide (0 ≤ r) = S.any p ∧ Below w.heap.size w w' := by
  obtain ⟨a, c, rfl, ht, hT, hS⟩ := h
  obtain ⟨n, hn⟩ : ∃ n, n = S.length := ⟨_, rfl⟩
  rw [← hn] at ht ⊢
  have HN := Lib.hid hn
  have HS := Lib.hid hS
  have HT := Lib.hid hT
  have HP := Lib.hid hp
  clear hn hS hT hp
  go_enter Try.func57, Try.ntmps57
  go_wp2_with fail
  go_loopw [8] (fun i wr => IdxRel w p S n i wr) (fun i _ => (n - (intOf i).toNat))
  case atStart => exact ⟨0, rfl, Nat.zero_le _, Below.refl _ _, by simp⟩
  case round =>
    obtain ⟨j, rfl, hj, hB, hall⟩ := hrel
    have B := Lib.hid hB
    have ALL := Lib.hid hall
    clear hB hall
    by_cases hlt' : j < n
    · obtain ⟨b, o, rfl, hlt, hc⟩ := HS.out.resolve_left (by intro e; have := HN.out; rw [e] at this; simp at this; omega)
      obtain ⟨x, y, hrow, c0, c1⟩ := two_cells HT.out hc j (by have := HN.out; omega)
      have d0 := (B.out.cell (p := ⟨b, o + j * 2, none⟩) hlt).trans c0
      have d1 := (B.out.cell (p := ⟨b, o + j * 2 + 1, none⟩) hlt).trans c1
      have ROW := Lib.hid hrow
      clear hc c0 c1 hrow
      go_wp2_with fail
      refine (HP.out _ x y B.out).mono ?_
      rintro e w1 ⟨rfl, hb1⟩
      have B1 := Lib.hid (B.out.trans (hb1.mono B.out.size))
      clear hb1
      cases hpr : p [x, y] with
      | false =>
        have ALL1 := Lib.hid (take_any p S j (by have := HN.out; omega) ALL.out (by rw [ROW.out]; exact hpr))
        go_wp2
        go_roundw
        case rel => exact ⟨j + 1, by go_num, by omega, B1.out, ALL1.out⟩
        case measure => simp [intOf]; omega
      | true =>
        have e : S.any p = true := has_any p S j (by have := HN.out; omega) (by rw [ROW.out]; exact hpr)
        go_wp2
        go_ret
        exact ⟨_, rfl, by rw [e]; simp, B1.out⟩
    · obtain rfl : j = n := by omega
      have e : S.any p = false := by have := ALL.out; rwa [HN.out, List.take_length] at this
      clear hlt'
      go_wp2
      go_ret
      exact ⟨_, rfl, by rw [e]; simp, B.out⟩
theorem containsFunc_win (g : Nat) (caps : Array Value) (hent : ∀ (args : Array Value) (W : World), (callFunc g args).run Try.prog W = .ok (.enter g args) W) (p : Row → Bool) (v : Value) (S : List Row) (w : World) (h : RowsAt 2 w v S)
    (hp : ∀ (W : World) (x y : Int), Below w.heap.size w W → Calls Try.prog g (#[.agg #[.int .i64 x, .int .i64 y]] ++ caps) W fun e w' => e = .returned (.bool (p [x, y])) ∧ Below W.heap.size W w') :
    Calls Try.prog 51 #[v, .func (.func g) #[] caps] w fun e w' => e = .returned (.bool (S.any p)) ∧ Below w.heap.size w w' := by
  have HX := Lib.hid (indexFunc_win g caps hent p v S w h hp)
  clear h hp
  go_enter Try.func51, Try.ntmps51
  go_wp2_with fail
  refine HX.out.mono ?_
  rintro e w1 ⟨r, rfl, hr, hb⟩
  have B := Lib.hid hb
  have HR := Lib.hid hr
  clear hb hr
  go_wp2
  go_ret
  exact ⟨by rw [← HR.out]; rfl, B.out⟩
end Go.Proofs.Ytepfljfaclakeaa
