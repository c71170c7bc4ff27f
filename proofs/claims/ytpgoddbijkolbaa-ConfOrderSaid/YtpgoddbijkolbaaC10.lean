/- The contracts of slices.Equal at the three types, and of package conf's Same. Condition: the lists lie in memory. Written by gen/gen_c10.py. -/
import Derived.Test.YtpgoddbijkolbaaC5
import Derived.Laws.StructEq
import Derived.Deep.RegionHeld3
namespace Go.Proofs.Ytpgoddbijkolbaa
open Go.RowKit
set_option maxRecDepth 100000

theorem take_eq {S U : List Row} {j : Nat} (hs : j < S.length) (hu : j < U.length) (h : S.take j = U.take j) (e : S.getD j [] = U.getD j []) : S.take (j + 1) = U.take (j + 1) := by
  have e1 : S.getD j [] = S[j] := by simp [List.getD_eq_getElem?_getD, hs]
  have e2 : U.getD j [] = U[j] := by simp [List.getD_eq_getElem?_getD, hu]
  rw [List.take_succ_eq_append_getElem hs, List.take_succ_eq_append_getElem hu, h, ← e1, ← e2, e]
def EqRel (w : World) (S U : List Row) (n : Nat) (i : Value) (wr : World) : Prop := ∃ j : Nat, i = .int .i64 (j : Int) ∧ j ≤ n ∧ Below w.heap.size w wr ∧ S.take j = U.take j

theorem neq_part (x y x' y' : Int) (w : World) : (binOp .neq 41 (.agg #[.int .i64 x, .int .i64 y]) (.agg #[.int .i64 x', .int .i64 y'])).run Try.prog w = .ok (.bool (!decide ([x, y] = [x', y']))) w := by
  rw [run_neq_struct, show (10000 : Nat) = 9999 + 1 from rfl, run_equalIn_struct w 9999 41 _ _ (by kernel_rfl) (by kernel_rfl)]
  simp only [Program.fieldsOf, Try.underlying41]
  go_simp
  by_cases h0 : x = x' <;> by_cases h1 : y = y' <;> simp [h0, h1]
set_option maxHeartbeats 1000000 in
theorem equal_part (v v' : Value) (S U : List Row) (w : World) (h : RowsAt 2 w v S) (h' : RowsAt 2 w v' U) : Calls Try.prog 33 #[v, v'] w fun e w' => e = .returned (.bool (decide (S = U))) ∧ Below w.heap.size w w' := by
  obtain ⟨a, c, rfl, ht, hT, hS⟩ := h
  obtain ⟨a', c', rfl, ht', hT', hS'⟩ := h'
  obtain ⟨n, hn⟩ : ∃ n, n = S.length := ⟨_, rfl⟩
  obtain ⟨m, hm⟩ : ∃ m, m = U.length := ⟨_, rfl⟩
  rw [← hn] at ht ⊢
  rw [← hm] at ht' ⊢
  have HN := Lib.hid hn
  have HM := Lib.hid hm
  have HS := Lib.hid hS
  have HT := Lib.hid hT
  have HS' := Lib.hid hS'
  have HT' := Lib.hid hT'
  have hnq := neq_part
  clear hS hT hS' hT'
  by_cases hnm : n = m
  · have NM := Lib.hid hnm
    clear hn hm
    subst hnm
    go_enter Try.func33, Try.ntmps33
    go_wp2_with fail
    go_loopw [13] (fun i wr => EqRel w S U n i wr) (fun i _ => (n - (intOf i).toNat))
    case atStart => exact ⟨0, rfl, Nat.zero_le _, Below.refl _ _, by simp⟩
    case round =>
      obtain ⟨j, rfl, hj, hB, hall⟩ := hrel
      have B := Lib.hid hB
      have ALL := Lib.hid hall
      clear hB hall
      by_cases hlt' : j < n
      · obtain ⟨b, o, rfl, hlt, hc⟩ := HS.out.resolve_left (by intro e; have := HN.out; rw [e] at this; simp at this; omega)
        obtain ⟨b', o', rfl, hlt2, hc'⟩ := HS'.out.resolve_left (by intro e; have := HM.out; rw [e] at this; simp at this; omega)
        obtain ⟨x, y, hrow, c0, c1⟩ := two_cells HT.out hc j (by have := HN.out; omega)
        obtain ⟨x', y', hrow', d0, d1⟩ := two_cells HT'.out hc' j (by have := HM.out; omega)
        have c0 := (B.out.cell (p := ⟨b, o + j * 2, none⟩) hlt).trans c0
        have c1 := (B.out.cell (p := ⟨b, o + j * 2 + 1, none⟩) hlt).trans c1
        have d0 := (B.out.cell (p := ⟨b', o' + j * 2, none⟩) hlt2).trans d0
        have d1 := (B.out.cell (p := ⟨b', o' + j * 2 + 1, none⟩) hlt2).trans d1
        have ROW := Lib.hid hrow
        have ROW' := Lib.hid hrow'
        clear hc hc' hrow hrow'
        have hq := hnq x y x' y'
        obtain ⟨r, hr⟩ : ∃ r, r = decide ([x, y] = [x', y']) := ⟨_, rfl⟩
        rw [← hr] at hq
        have RR := Lib.hid hr
        clear hr hnq
        cases r with
        | true =>
          rw [Bool.not_true] at hq
          have e1 : S.getD j [] = U.getD j [] := by rw [ROW.out, ROW'.out]; exact of_decide_eq_true RR.out.symm
          have ALL1 := Lib.hid (take_eq (show j < S.length by have := HN.out; omega) (show j < U.length by have := HM.out; omega) ALL.out e1)
          clear e1
          go_wp2_with fail
          go_region_held3 (fun w' => w'.cell? ⟨b, o + j * 2, none⟩ = some (.int .i64 x) ∧ w'.cell? ⟨b, o + j * 2 + 1, none⟩ = some (.int .i64 y) ∧ w'.cell? ⟨b', o' + j * 2, none⟩ = some (.int .i64 x') ∧ w'.cell? ⟨b', o' + j * 2 + 1, none⟩ = some (.int .i64 y')) (go_keep) (fail)
          go_wp2
          go_roundw
          case rel => exact ⟨j + 1, by go_num, by omega, B.out.drew, ALL1.out⟩
          case measure => simp [intOf]; omega
        | false =>
          rw [Bool.not_false] at hq
          have e1 : decide (S = U) = false := by
            refine decide_eq_false fun e => ?_
            have h1 := ROW.out
            rw [e, ROW'.out] at h1
            exact of_decide_eq_false RR.out.symm h1.symm
          have E1 := Lib.hid e1
          clear e1
          go_wp2_with fail
          go_region_held3 (fun w' => w'.cell? ⟨b, o + j * 2, none⟩ = some (.int .i64 x) ∧ w'.cell? ⟨b, o + j * 2 + 1, none⟩ = some (.int .i64 y) ∧ w'.cell? ⟨b', o' + j * 2, none⟩ = some (.int .i64 x') ∧ w'.cell? ⟨b', o' + j * 2 + 1, none⟩ = some (.int .i64 y')) (go_keep) (fail)
          go_wp2
          go_ret
          exact ⟨by rw [E1.out]; rfl, B.out.drew⟩
      · obtain rfl : j = n := by omega
        have e1 : S = U := by have := ALL.out; rwa [show S.take j = S by rw [HN.out, List.take_length], show U.take j = U by rw [HM.out, List.take_length]] at this
        clear hlt'
        go_wp2
        go_ret
        exact ⟨by rw [decide_eq_true e1]; rfl, B.out⟩
  · have e1 : decide (S = U) = false := decide_eq_false fun e => hnm (by rw [hn, hm, e])
    have hnm' : ¬ (n : Int) = (m : Int) := by omega
    clear hn hm
    go_enter Try.func33, Try.ntmps33
    go_wp2
    go_ret
    exact ⟨by rw [e1]; rfl, Below.refl _ _⟩

theorem neq_win (x y x' y' : Int) (w : World) : (binOp .neq 44 (.agg #[.int .i64 x, .int .i64 y]) (.agg #[.int .i64 x', .int .i64 y'])).run Try.prog w = .ok (.bool (!decide ([x, y] = [x', y']))) w := by
  rw [run_neq_struct, show (10000 : Nat) = 9999 + 1 from rfl, run_equalIn_struct w 9999 44 _ _ (by kernel_rfl) (by kernel_rfl)]
  simp only [Program.fieldsOf, Try.underlying44]
  go_simp
  by_cases h0 : x = x' <;> by_cases h1 : y = y' <;> simp [h0, h1]
set_option maxHeartbeats 1000000 in
theorem equal_win (v v' : Value) (S U : List Row) (w : World) (h : RowsAt 2 w v S) (h' : RowsAt 2 w v' U) : Calls Try.prog 34 #[v, v'] w fun e w' => e = .returned (.bool (decide (S = U))) ∧ Below w.heap.size w w' := by
  obtain ⟨a, c, rfl, ht, hT, hS⟩ := h
  obtain ⟨a', c', rfl, ht', hT', hS'⟩ := h'
  obtain ⟨n, hn⟩ : ∃ n, n = S.length := ⟨_, rfl⟩
  obtain ⟨m, hm⟩ : ∃ m, m = U.length := ⟨_, rfl⟩
  rw [← hn] at ht ⊢
  rw [← hm] at ht' ⊢
  have HN := Lib.hid hn
  have HM := Lib.hid hm
  have HS := Lib.hid hS
  have HT := Lib.hid hT
  have HS' := Lib.hid hS'
  have HT' := Lib.hid hT'
  have hnq := neq_win
  clear hS hT hS' hT'
  by_cases hnm : n = m
  · have NM := Lib.hid hnm
    clear hn hm
    subst hnm
    go_enter Try.func34, Try.ntmps34
    go_wp2_with fail
    go_loopw [13] (fun i wr => EqRel w S U n i wr) (fun i _ => (n - (intOf i).toNat))
    case atStart => exact ⟨0, rfl, Nat.zero_le _, Below.refl _ _, by simp⟩
    case round =>
      obtain ⟨j, rfl, hj, hB, hall⟩ := hrel
      have B := Lib.hid hB
      have ALL := Lib.hid hall
      clear hB hall
      by_cases hlt' : j < n
      · obtain ⟨b, o, rfl, hlt, hc⟩ := HS.out.resolve_left (by intro e; have := HN.out; rw [e] at this; simp at this; omega)
        obtain ⟨b', o', rfl, hlt2, hc'⟩ := HS'.out.resolve_left (by intro e; have := HM.out; rw [e] at this; simp at this; omega)
        obtain ⟨x, y, hrow, c0, c1⟩ := two_cells HT.out hc j (by have := HN.out; omega)
        obtain ⟨x', y', hrow', d0, d1⟩ := two_cells HT'.out hc' j (by have := HM.out; omega)
        have c0 := (B.out.cell (p := ⟨b, o + j * 2, none⟩) hlt).trans c0
        have c1 := (B.out.cell (p := ⟨b, o + j * 2 + 1, none⟩) hlt).trans c1
        have d0 := (B.out.cell (p := ⟨b', o' + j * 2, none⟩) hlt2).trans d0
        have d1 := (B.out.cell (p := ⟨b', o' + j * 2 + 1, none⟩) hlt2).trans d1
        have ROW := Lib.hid hrow
        have ROW' := Lib.hid hrow'
        clear hc hc' hrow hrow'
        have hq := hnq x y x' y'
        obtain ⟨r, hr⟩ : ∃ r, r = decide ([x, y] = [x', y']) := ⟨_, rfl⟩
        rw [← hr] at hq
        have RR := Lib.hid hr
        clear hr hnq
        cases r with
        | true =>
          rw [Bool.not_true] at hq
          have e1 : S.getD j [] = U.getD j [] := by rw [ROW.out, ROW'.out]; exact of_decide_eq_true RR.out.symm
          have ALL1 := Lib.hid (take_eq (show j < S.length by have := HN.out; omega) (show j < U.length by have := HM.out; omega) ALL.out e1)
          clear e1
          go_wp2_with fail
          go_region_held3 (fun w' => w'.cell? ⟨b, o + j * 2, none⟩ = some (.int .i64 x) ∧ w'.cell? ⟨b, o + j * 2 + 1, none⟩ = some (.int .i64 y) ∧ w'.cell? ⟨b', o' + j * 2, none⟩ = some (.int .i64 x') ∧ w'.cell? ⟨b', o' + j * 2 + 1, none⟩ = some (.int .i64 y')) (go_keep) (fail)
          go_wp2
          go_roundw
          case rel => exact ⟨j + 1, by go_num, by omega, B.out.drew, ALL1.out⟩
          case measure => simp [intOf]; omega
        | false =>
          rw [Bool.not_false] at hq
          have e1 : decide (S = U) = false := by
            refine decide_eq_false fun e => ?_
            have h1 := ROW.out
            rw [e, ROW'.out] at h1
            exact of_decide_eq_false RR.out.symm h1.symm
          have E1 := Lib.hid e1
          clear e1
          go_wp2_with fail
          go_region_held3 (fun w' => w'.cell? ⟨b, o + j * 2, none⟩ = some (.int .i64 x) ∧ w'.cell? ⟨b, o + j * 2 + 1, none⟩ = some (.int .i64 y) ∧ w'.cell? ⟨b', o' + j * 2, none⟩ = some (.int .i64 x') ∧ w'.cell? ⟨b', o' + j * 2 + 1, none⟩ = some (.int .i64 y')) (go_keep) (fail)
          go_wp2
          go_ret
          exact ⟨by rw [E1.out]; rfl, B.out.drew⟩
      · obtain rfl : j = n := by omega
        have e1 : S = U := by have := ALL.out; rwa [show S.take j = S by rw [HN.out, List.take_length], show U.take j = U by rw [HM.out, List.take_length]] at this
        clear hlt'
        go_wp2
        go_ret
        exact ⟨by rw [decide_eq_true e1]; rfl, B.out⟩
  · have e1 : decide (S = U) = false := decide_eq_false fun e => hnm (by rw [hn, hm, e])
    have hnm' : ¬ (n : Int) = (m : Int) := by omega
    clear hn hm
    go_enter Try.func34, Try.ntmps34
    go_wp2
    go_ret
    exact ⟨by rw [e1]; rfl, Below.refl _ _⟩

theorem neq_chan (x y z t x' y' z' t' : Int) (w : World) : (binOp .neq 46 (.agg #[.int .i64 x, .int .i64 y, .int .i64 z, .int .i64 t]) (.agg #[.int .i64 x', .int .i64 y', .int .i64 z', .int .i64 t'])).run Try.prog w = .ok (.bool (!decide ([x, y, z, t] = [x', y', z', t']))) w := by
  rw [run_neq_struct, show (10000 : Nat) = 9999 + 1 from rfl, run_equalIn_struct w 9999 46 _ _ (by kernel_rfl) (by kernel_rfl)]
  simp only [Program.fieldsOf, Try.underlying46]
  go_simp
  by_cases h0 : x = x' <;> by_cases h1 : y = y' <;> by_cases h2 : z = z' <;> by_cases h3 : t = t' <;> simp [h0, h1, h2, h3]
set_option maxHeartbeats 1000000 in
theorem equal_chan (v v' : Value) (S U : List Row) (w : World) (h : RowsAt 4 w v S) (h' : RowsAt 4 w v' U) : Calls Try.prog 35 #[v, v'] w fun e w' => e = .returned (.bool (decide (S = U))) ∧ Below w.heap.size w w' := by
  obtain ⟨a, c, rfl, ht, hT, hS⟩ := h
  obtain ⟨a', c', rfl, ht', hT', hS'⟩ := h'
  obtain ⟨n, hn⟩ : ∃ n, n = S.length := ⟨_, rfl⟩
  obtain ⟨m, hm⟩ : ∃ m, m = U.length := ⟨_, rfl⟩
  rw [← hn] at ht ⊢
  rw [← hm] at ht' ⊢
  have HN := Lib.hid hn
  have HM := Lib.hid hm
  have HS := Lib.hid hS
  have HT := Lib.hid hT
  have HS' := Lib.hid hS'
  have HT' := Lib.hid hT'
  have hnq := neq_chan
  clear hS hT hS' hT'
  by_cases hnm : n = m
  · have NM := Lib.hid hnm
    clear hn hm
    subst hnm
    go_enter Try.func35, Try.ntmps35
    go_wp2_with fail
    go_loopw [13] (fun i wr => EqRel w S U n i wr) (fun i _ => (n - (intOf i).toNat))
    case atStart => exact ⟨0, rfl, Nat.zero_le _, Below.refl _ _, by simp⟩
    case round =>
      obtain ⟨j, rfl, hj, hB, hall⟩ := hrel
      have B := Lib.hid hB
      have ALL := Lib.hid hall
      clear hB hall
      by_cases hlt' : j < n
      · obtain ⟨b, o, rfl, hlt, hc⟩ := HS.out.resolve_left (by intro e; have := HN.out; rw [e] at this; simp at this; omega)
        obtain ⟨b', o', rfl, hlt2, hc'⟩ := HS'.out.resolve_left (by intro e; have := HM.out; rw [e] at this; simp at this; omega)
        obtain ⟨x, y, z, t, hrow, c0, c1, c2, c3⟩ := four_cells HT.out hc j (by have := HN.out; omega)
        obtain ⟨x', y', z', t', hrow', d0, d1, d2, d3⟩ := four_cells HT'.out hc' j (by have := HM.out; omega)
        have c0 := (B.out.cell (p := ⟨b, o + j * 4, none⟩) hlt).trans c0
        have c1 := (B.out.cell (p := ⟨b, o + j * 4 + 1, none⟩) hlt).trans c1
        have c2 := (B.out.cell (p := ⟨b, o + j * 4 + 2, none⟩) hlt).trans c2
        have c3 := (B.out.cell (p := ⟨b, o + j * 4 + 3, none⟩) hlt).trans c3
        have d0 := (B.out.cell (p := ⟨b', o' + j * 4, none⟩) hlt2).trans d0
        have d1 := (B.out.cell (p := ⟨b', o' + j * 4 + 1, none⟩) hlt2).trans d1
        have d2 := (B.out.cell (p := ⟨b', o' + j * 4 + 2, none⟩) hlt2).trans d2
        have d3 := (B.out.cell (p := ⟨b', o' + j * 4 + 3, none⟩) hlt2).trans d3
        have ROW := Lib.hid hrow
        have ROW' := Lib.hid hrow'
        clear hc hc' hrow hrow'
        have hq := hnq x y z t x' y' z' t'
        obtain ⟨r, hr⟩ : ∃ r, r = decide ([x, y, z, t] = [x', y', z', t']) := ⟨_, rfl⟩
        rw [← hr] at hq
        have RR := Lib.hid hr
        clear hr hnq
        cases r with
        | true =>
          rw [Bool.not_true] at hq
          have e1 : S.getD j [] = U.getD j [] := by rw [ROW.out, ROW'.out]; exact of_decide_eq_true RR.out.symm
          have ALL1 := Lib.hid (take_eq (show j < S.length by have := HN.out; omega) (show j < U.length by have := HM.out; omega) ALL.out e1)
          clear e1
          go_wp2_with fail
          go_region_held3 (fun w' => w'.cell? ⟨b, o + j * 4, none⟩ = some (.int .i64 x) ∧ w'.cell? ⟨b, o + j * 4 + 1, none⟩ = some (.int .i64 y) ∧ w'.cell? ⟨b, o + j * 4 + 2, none⟩ = some (.int .i64 z) ∧ w'.cell? ⟨b, o + j * 4 + 3, none⟩ = some (.int .i64 t) ∧ w'.cell? ⟨b', o' + j * 4, none⟩ = some (.int .i64 x') ∧ w'.cell? ⟨b', o' + j * 4 + 1, none⟩ = some (.int .i64 y') ∧ w'.cell? ⟨b', o' + j * 4 + 2, none⟩ = some (.int .i64 z') ∧ w'.cell? ⟨b', o' + j * 4 + 3, none⟩ = some (.int .i64 t')) (go_keep) (fail)
          go_wp2
          go_roundw
          case rel => exact ⟨j + 1, by go_num, by omega, B.out.drew, ALL1.out⟩
          case measure => simp [intOf]; omega
        | false =>
          rw [Bool.not_false] at hq
          have e1 : decide (S = U) = false := by
            refine decide_eq_false fun e => ?_
            have h1 := ROW.out
            rw [e, ROW'.out] at h1
            exact of_decide_eq_false RR.out.symm h1.symm
          have E1 := Lib.hid e1
          clear e1
          go_wp2_with fail
          go_region_held3 (fun w' => w'.cell? ⟨b, o + j * 4, none⟩ = some (.int .i64 x) ∧ w'.cell? ⟨b, o + j * 4 + 1, none⟩ = some (.int .i64 y) ∧ w'.cell? ⟨b, o + j * 4 + 2, none⟩ = some (.int .i64 z) ∧ w'.cell? ⟨b, o + j * 4 + 3, none⟩ = some (.int .i64 t) ∧ w'.cell? ⟨b', o' + j * 4, none⟩ = some (.int .i64 x') ∧ w'.cell? ⟨b', o' + j * 4 + 1, none⟩ = some (.int .i64 y') ∧ w'.cell? ⟨b', o' + j * 4 + 2, none⟩ = some (.int .i64 z') ∧ w'.cell? ⟨b', o' + j * 4 + 3, none⟩ = some (.int .i64 t')) (go_keep) (fail)
          go_wp2
          go_ret
          exact ⟨by rw [E1.out]; rfl, B.out.drew⟩
      · obtain rfl : j = n := by omega
        have e1 : S = U := by have := ALL.out; rwa [show S.take j = S by rw [HN.out, List.take_length], show U.take j = U by rw [HM.out, List.take_length]] at this
        clear hlt'
        go_wp2
        go_ret
        exact ⟨by rw [decide_eq_true e1]; rfl, B.out⟩
  · have e1 : decide (S = U) = false := decide_eq_false fun e => hnm (by rw [hn, hm, e])
    have hnm' : ¬ (n : Int) = (m : Int) := by omega
    clear hn hm
    go_enter Try.func35, Try.ntmps35
    go_wp2
    go_ret
    exact ⟨by rw [e1]; rfl, Below.refl _ _⟩

theorem box_two (w : World) (o1 o2 : Obj) : Below w.heap.size w ((w.alloc o1).alloc o2) := below_two w o1 o2
set_option maxHeartbeats 1000000 in
theorem same_ok (v1 v2 v3 u1 u2 u3 : Value) (C D : Cf) (w : World) (h : CfAt w v1 v2 v3 C) (k : CfAt w u1 u2 u3 D) : Calls Try.prog 17 #[.agg #[v1, v2, v3], .agg #[u1, u2, u3]] w fun e w' => e = .returned (.bool (decide (C = D))) ∧ Below w.heap.size w w' := by
  obtain ⟨w1, hw1⟩ : ∃ w1, w1 = (w.alloc (.cells #[v1, v2, v3] 26)).alloc (.cells #[u1, u2, u3] 26) := ⟨_, rfl⟩
  have hb1 : Below w.heap.size w w1 := by rw [hw1]; exact below_two w _ _
  have HX : CBox w1 w.heap.size v1 v2 v3 := by rw [hw1]; exact (CBox.new w _ _ _).below ((Below.refl _ _).alloc (Nat.le_refl _) _)
  have HY : CBox w1 (w.heap.size + 1) u1 u2 u3 := by rw [hw1]; exact heap_alloc2_new w _ _
  have X1 := Lib.hid HX
  have Y1 := Lib.hid HY
  have B1 := Lib.hid hb1
  have HC := Lib.hid (h.below hb1)
  have HD := Lib.hid (k.below hb1)
  obtain ⟨P, W, H⟩ := C
  obtain ⟨P', W', H'⟩ := D
  have hm : decide ((P, W, H) = (P', W', H')) = (decide (P = P') && (decide (W = W') && decide (H = H'))) := by
    by_cases h1 : P = P' <;> by_cases h2 : W = W' <;> by_cases h3 : H = H' <;> simp [h1, h2, h3]
  have HM := Lib.hid hm
  clear h k hb1 HX HY hm
  go_enter Try.func17, Try.ntmps17
  go_wp2_with fail
  rw [← hw1]
  clear hw1
  refine (equal_part v1 u1 P P' w1 HC.out.ps HD.out.ps).mono ?_
  rintro e w2 ⟨rfl, hb⟩
  have K2 := Lib.hid hb
  clear hb
  cases h1 : decide (P = P') with
  | false =>
    go_wp2
    go_ret
    exact ⟨by rw [HM.out, h1]; rfl, B1.out.trans (K2.out.mono B1.out.size)⟩
  | true =>
    have c1 := (X1.out.below K2.out).c1
    have d1 := (Y1.out.below K2.out).c1
    go_wp2_with fail
    refine (equal_win v2 u2 W W' w2 (HC.out.below K2.out).ws (HD.out.below K2.out).ws).mono ?_
    rintro e w3 ⟨rfl, hb⟩
    have K3 := Lib.hid (K2.out.trans (hb.mono K2.out.size))
    clear hb c1 d1
    cases h2 : decide (W = W') with
    | false =>
      go_wp2
      go_ret
      exact ⟨by rw [HM.out, h1, h2]; rfl, B1.out.trans (K3.out.mono B1.out.size)⟩
    | true =>
      have c2 := (X1.out.below K3.out).c2
      have d2 := (Y1.out.below K3.out).c2
      go_wp2_with fail
      refine (equal_chan v3 u3 H H' w3 (HC.out.below K3.out).hs (HD.out.below K3.out).hs).mono ?_
      rintro e w4 ⟨rfl, hb⟩
      have K4 := Lib.hid (K3.out.trans (hb.mono K3.out.size))
      clear hb c2 d2
      go_wp2
      go_ret
      exact ⟨by rw [HM.out, h1, h2]; rfl, B1.out.trans (K4.out.mono B1.out.size)⟩
end Go.Proofs.Ytpgoddbijkolbaa
