/- The contracts of the document's own answers, layer 7: Row, Turn. Conditions: the configuration's lists lie in memory; for Row: it may be. -/
import Derived.Test.YtepfljfaclakeaaP10
namespace Go.Proofs.Ytepfljfaclakeaa
open Go.RowKit
set_option maxRecDepth 100000

theorem intInfo7 : (Try.prog.info? 3).map (fun i => (i.zero, i.size, i.bytes)) = some (some (.int .i64 0), 1, 8) := by kernel_rfl
theorem one_cell (w : World) (u : Value) (t : TypeId) : ∀ (j : Nat) (x : Value), [u][j]? = some x → (w.alloc (.cells #[u] t)).cell? ((⟨w.heap.size, 0, none⟩ : Addr).add j) = some x := fun j x hx => by
  rw [Addr.add_mid, cell_of_row _ _ _ _ _ _ (heap_alloc_new w _)]
  rw [show 0 + j = j by omega, ← hx]; simp
def intsV (L : List Int) : List Value := L.map (Value.int .i64)
theorem intsV_snoc (L : List Int) (x : Int) : intsV (L ++ [x]) = intsV L ++ [.int .i64 x] := by simp [intsV]
/-- A row of numbers, made, and what lay ahead of it. -/
structure RowSt (w wr : World) (v : Value) (L : List Int) : Prop where
  bel : Below w.heap.size w wr
  own : wr.ownsRow w.heap.size 3 1 v L.length (intsV L)
theorem RowSt.start (w : World) : RowSt w w (.slice none 0 0) [] := ⟨Below.refl _ _, World.ownsRow_nil _ _ _ _⟩
theorem rep_snoc (L : List Int) (k : Nat) (i : Int) : L ++ List.replicate (k + 1) i = (L ++ List.replicate k i) ++ [i] := by
  rw [List.replicate_succ', List.append_assoc]
/-- A slice of numbers. -/
def NumsAt (w : World) (v : Value) (L : List Int) : Prop := ∃ g c, v = .slice (some ⟨g, 0, none⟩) L.length c ∧ g < w.heap.size ∧ ∀ j x, L[j]? = some x → w.cell? ⟨g, j, none⟩ = some (.int .i64 x)
theorem RowSt.nums {w wr : World} {v : Value} {L : List Int} (h : RowSt w wr v L) (hl : 1 ≤ L.length) : NumsAt wr v L := by
  obtain ⟨k, hk⟩ : ∃ k, L.length = k + 1 := ⟨L.length - 1, by omega⟩
  have ho := h.own
  rw [hk] at ho
  obtain ⟨g, c, rfl⟩ := ownsRow_succ ho
  rw [← hk] at ho
  refine ⟨g, c, by rw [hk], (ho.lt g rfl).2, fun j x hx => ?_⟩
  have hj : j < L.length := (List.getElem?_eq_some_iff.1 hx).1
  rw [ho.cellAt j (by omega), intsV, List.getElem?_map, hx]
  rfl
set_option maxHeartbeats 4000000 in
theorem row_in (n c2 : Nat) (a2 : Option Addr) (v1 v3 : Value) (C : Cf) (hk : chk C = 0) (hn : n = C.2.1.length) (w : World) (h : CfAt w v1 (.slice a2 n c2) v3 C) :
    Calls Try.prog 20 #[.agg #[v1, .slice a2 n c2, v3]] w fun e w' => ∃ v, e = .returned v ∧ NumsAt w' v (rowL (winL C)) ∧ Below w.heap.size w w' := by
  obtain ⟨ii, hi, hi0, hi1, hi2⟩ := info_parts intInfo7
  have hm := (chk_zero hk).1
  obtain ⟨w1', w2', w3⟩ := mayB_wins hm
  have hsum := sumL_winL hm
  have hlen := rowL_length (winL C) (winL_pos hm)
  obtain ⟨w1, hw1⟩ : ∃ w1, w1 = w.alloc (.cells #[v1, .slice a2 n c2, v3] 26) := ⟨_, rfl⟩
  have hb1 : Below w.heap.size w w1 := by rw [hw1]; exact (Below.refl _ _).alloc (Nat.le_refl _) _
  have hx : CBox w1 w.heap.size v1 (.slice a2 n c2) v3 := by rw [hw1]; exact CBox.new w _ _ _
  have HC := Lib.hid (h.below hb1)
  have X1 := Lib.hid hx
  have B1 := Lib.hid hb1
  have HN := Lib.hid hn
  have WW := Lib.hid w3
  have FIN : Hid (∀ wr v, RowSt w1 wr v (rowL (winN C.2.1 n)) → NumsAt wr v (rowL (winL C))) := Lib.hid (by
    intro wr v hr
    have e : winN C.2.1 n = winL C := by rw [hn]; rfl
    rw [e] at hr
    exact hr.nums (by omega))
  have SHORT : Hid (∀ j, j ≤ n → (rowL (winN C.2.1 j)).length ≤ 1000000) := Lib.hid (by
    intro j hj
    have h1 := winL_small hm (winN C.2.1 j) (winN_pre _ (by omega))
    have h2 := rowL_length (winN C.2.1 j) (fun x hx => winL_pos hm x ((winN_pre C.2.1 (show j ≤ C.2.1.length by omega)).subset hx))
    omega)
  have hn32 : n ≤ 32 := by omega
  clear h hx hb1 hn w1' w2' w3 hsum hlen
  go_enter Try.func20, Try.ntmps20
  go_wp2_with fail
  rw [← hw1]
  clear hw1
  go_loopw [3, 4] (fun l i wr => ∃ j : Nat, i = .int .i64 (j : Int) ∧ j ≤ n ∧ RowSt w1 wr l (rowL (winN C.2.1 j))) (fun _ i _ => (n - (intOf i).toNat))
  case atStart => exact ⟨0, rfl, Nat.zero_le _, RowSt.start _⟩
  case round =>
    obtain ⟨j, rfl, hj, hR⟩ := hrel
    have R := Lib.hid hR
    clear hR
    have e1 := (X1.out.below R.out.bel).c1
    by_cases hlt : j < n
    · have hrow0 := (show RowsAt 2 w1 (.slice a2 n c2) C.2.1 from HC.out.ws).two (Below.refl _ _) j hlt
      obtain ⟨-, b, o, x, y, rfl, hbl, hrow, g0, g1⟩ := hrow0
      have hwb := winB_le _ _ (WW.out _ (getD_mem (by have := HN.out; omega)) : winB C.1.length (C.2.1.getD j []) = true)
      have hnx : rowL (winN C.2.1 (j + 1)) = rowL (winN C.2.1 j) ++ List.replicate y.toNat (j : Int) := by
        rw [winN_succ, rowL_snoc]
        unfold winAt
        rw [hrow]
        rfl
      rw [hrow] at hwb
      obtain ⟨-, y1, y2⟩ := hwb
      simp only [List.getD_cons_zero, List.getD_cons_succ] at y1 y2
      obtain ⟨t, rfl⟩ := Int.eq_ofNat_of_zero_le (show 0 ≤ y by omega)
      rw [show ((t : Int)).toNat = t from rfl] at hnx
      have NX := Lib.hid hnx
      have SJ := Lib.hid (SHORT.out (j + 1) hlt)
      clear hrow hnx g0 hbl
      have G1 := Lib.hid g1
      clear g1
      go_wp2_with fail
      clear e1
      go_loopw [3, 5] (fun l k wr' => ∃ q : Nat, k = .int .i64 (q : Int) ∧ q ≤ t ∧ RowSt w1 wr' l (rowL (winN C.2.1 j) ++ List.replicate q (j : Int))) (fun _ k _ => (t - (intOf k).toNat))
      case atStart => exact ⟨0, rfl, Nat.zero_le _, by simpa using R.out⟩
      case round =>
        obtain ⟨q, rfl, hq, hR⟩ := hrel
        have R2 := Lib.hid hR
        clear hR
        have e1 := (X1.out.below R2.out.bel).c1
        have hbw : b < w1.heap.size := block_lt_of_cell G1.out
        have g1 := (R2.out.bel.cell (p := ⟨b, o + j * 2 + 1, none⟩) hbw).trans G1.out
        by_cases hlt2 : q < t
        · have O2 := Lib.hid (R2.out.own.alloc (.cells #[.int .i64 (j : Int)] 3))
          have Z2 := Lib.hid R2.out.bel.size
          have hll : (rowL (winN C.2.1 j) ++ List.replicate q (j : Int)).length ≤ 1000000 := by
            have := SJ.out
            rw [NX.out, List.length_append, List.length_replicate] at this
            rw [List.length_append, List.length_replicate]; omega
          have R3 := Lib.hid (R2.out.bel.alloc R2.out.bel.size (.cells #[.int .i64 (j : Int)] 3))
          go_wp2_with (at_builtin; refine wpList_append_own _ rfl (.tmp 23) (.tmp 25) 38 rfl w1.heap.size 3 ii (.int .i64 0) 1 8 Try.underlying38 hi hi0 hi1 hi2 rfl (by decide) _ (rowL (winN C.2.1 j) ++ List.replicate q (j : Int)).length _ rfl O2.out ⟨_, 0, none⟩ 1 1 [.int .i64 (j : Int)] rfl rfl (one_cell _ _ _) (by simp [Value.oneCell']) (by unfold maxLen; omega) (by omega) (by have := Z2.out; simp; omega) ?_; intro v4 w4 ho hg _; have R4 := Lib.hid (RowSt.mk (R3.out.grown hg R3.out.size (fun k e => (O2.out.lt k e).1)) (by rw [rep_snoc, intsV_snoc, List.length_append]; exact ho) : RowSt w1 w4 v4 (rowL (winN C.2.1 j) ++ List.replicate (q + 1) (j : Int))); clear ho hg)
          go_roundw
          case rel => exact ⟨q + 1, by go_num, by omega, R4.out⟩
          case measure => simp [intOf]; omega
        · obtain rfl : q = t := by omega
          go_wp2
          go_roundw
          case rel => exact ⟨j + 1, by go_num, by omega, by rw [NX.out]; exact R2.out⟩
          case measure => simp [intOf]; omega
    · obtain rfl : j = n := by omega
      go_wp2
      go_ret
      exact ⟨_, rfl, FIN.out _ _ R.out, B1.out.trans (R.out.bel.mono B1.out.size)⟩
theorem row_ok (v1 v2 v3 : Value) (C : Cf) (hk : chk C = 0) (w : World) (h : CfAt w v1 v2 v3 C) : Calls Try.prog 20 #[.agg #[v1, v2, v3]] w fun e w' => ∃ v, e = .returned v ∧ NumsAt w' v (rowL (winL C)) ∧ Below w.heap.size w w' := by
  have hp := h.ws
  obtain ⟨a, c, rfl, _, _, _⟩ := hp
  exact row_in _ c a v1 v3 C hk rfl w h
set_option maxHeartbeats 4000000 in
theorem rturn_in (n c2 : Nat) (a2 : Option Addr) (v1 v3 : Value) (C : Cf) (hn : n = C.2.1.length) (t : Int) (ht : 0 ≤ t) (w : World) (h : CfAt w v1 (.slice a2 n c2) v3 C) :
    Calls Try.prog 17 #[.agg #[v1, .slice a2 n c2, v3], .int .u64 t] w fun e w' => e = ans3 (turnA C t) ∧ Below w.heap.size w w' := by
  obtain ⟨w1, hw1⟩ : ∃ w1, w1 = w.alloc (.cells #[v1, .slice a2 n c2, v3] 26) := ⟨_, rfl⟩
  have hb1 : Below w.heap.size w w1 := by rw [hw1]; exact (Below.refl _ _).alloc (Nat.le_refl _) _
  have hx : CBox w1 w.heap.size v1 (.slice a2 n c2) v3 := by rw [hw1]; exact CBox.new w _ _ _
  have HC := Lib.hid (h.below hb1)
  have X1 := Lib.hid hx
  have B1 := Lib.hid hb1
  have HN := Lib.hid hn
  have c0 := hx.c0
  have c1' := hx.c1
  have c2' := hx.c2
  clear h hx hb1 hn
  go_enter Try.func17, Try.ntmps17
  go_wp2_with fail
  rw [← hw1]
  clear hw1
  refine (rcheck_ok v1 _ v3 C w1 HC.out).mono ?_
  rintro e w2 ⟨rfl, hb⟩
  have K2 := Lib.hid hb
  clear hb c0 c1' c2'
  by_cases hk : chk C = 0
  · have hm := (chk_zero hk).1
    have e0 := (X1.out.below K2.out).c0
    have e1 := (X1.out.below K2.out).c1
    have e2 := (X1.out.below K2.out).c2
    rw [hk]
    go_wp2_with fail
    refine (row_ok v1 _ v3 C hk w2 (HC.out.below K2.out)).mono ?_
    rintro e w3 ⟨v, rfl, ⟨g, c, rfl, hgl, hc⟩, hb⟩
    have K3 := Lib.hid (K2.out.trans (hb.mono K2.out.size))
    obtain ⟨a, i, ha, hat, hL, hi, hT⟩ := turnA_row hk t
    have hx := hc a _ hL
    have hsum := sumL_winL hm
    have hlen := rowL_length (winL C) (winL_pos hm)
    generalize (rowL (winL C)).length = m at *
    have hmod : t.tmod (m : Int) = (a : Int) := by rw [Int.tmod_eq_emod_of_nonneg ht]; exact hat.symm
    have hmod2 : t % (m : Int) = (a : Int) := hat.symm
    have hm0 : ¬ (m : Int) = 0 := by omega
    have hml : (m : Int) ≤ 1000000 := by omega
    have e1 := (X1.out.below K3.out).c1
    obtain ⟨-, bb, o, x, y, rfl, hbl, hrow, g0, g1⟩ := (show RowsAt 2 w1 (.slice a2 n c2) C.2.1 from HC.out.ws).two K3.out i (by have := HN.out; omega)
    rw [hrow] at hT
    have HT := Lib.hid hT
    have hin : i < n := by have := HN.out; omega
    clear hc hL hrow hT hb hsum hlen hat e0 e2
    go_wp2
    refine ⟨rfl, .tuple #[.int .i64 x, .int .i64 (i : Int), .int .i64 0], ?_, by rw [HT.out]; rfl, B1.out.trans (K3.out.mono B1.out.size)⟩
    simp [results, Try.results17, go_sem]
  · have HA : Hid (turnA C t = (0, 0, chk C)) := Lib.hid (by unfold turnA; rw [if_neg hk])
    go_wp2
    refine ⟨rfl, .tuple #[.int .i64 0, .int .i64 0, .int .i64 (chk C)], ?_, by rw [HA.out]; rfl, B1.out.trans (K2.out.mono B1.out.size)⟩
    simp [results, Try.results17, go_sem]
theorem rturn_ok (v1 v2 v3 : Value) (C : Cf) (t : Int) (ht : 0 ≤ t) (w : World) (h : CfAt w v1 v2 v3 C) : Calls Try.prog 17 #[.agg #[v1, v2, v3], .int .u64 t] w fun e w' => e = ans3 (turnA C t) ∧ Below w.heap.size w w' := by
  have hp := h.ws
  obtain ⟨a, c, rfl, _, _, _⟩ := hp
  exact rturn_in _ c a v1 v3 C rfl t ht w h
end Go.Proofs.Ytepfljfaclakeaa
