/- The contracts of the document's own Push, Drop, Turn of layer 12. Condition: the row lies in memory. -/
import Derived.Test.YtmkoflmhopefhaaV5
import Derived.Laws.AppendOwnNone
namespace Go.Proofs.Ytmkoflmhopefhaa
open Go.RowKit
set_option maxRecDepth 100000

def RowPostV (w : World) (k : Int) (L : List Int) (e : Ending) (w' : World) : Prop := ∃ v, e = .returned (.tuple #[v, .int .i64 k]) ∧ ZRow w' v L ∧ Below w.heap.size w w'
/-- A row, cut behind its first numbers. -/
theorem ZRow.cut {w : World} {a : Option Addr} {c m : Nat} {L : List Int} (h : ZRow w (.slice a m c) L) (hm : m = L.length) :
    (a = none ∧ c = 0 ∧ L = []) ∨ ∃ b o, a = some ⟨b, o, none⟩ ∧ m ≤ c ∧ c ≤ maxLen ∧ b < w.heap.size ∧ ∀ k, ∀ w', Below w.heap.size w w' → ∀ j u, (intsV (L.drop k))[j]? = some u → w'.cell? ((⟨b, o + k, none⟩ : Addr).add j) = some u := by
  subst hm
  rcases h with ⟨h1, h2⟩ | ⟨b, o, c', cs, h1, h2, h3, h4, h5⟩
  · subst h2
    cases h1
    exact Or.inl ⟨rfl, rfl, rfl⟩
  · cases h1
    refine Or.inr ⟨b, o, rfl, h2, h3, lt_of_block h4, fun k w' hb j u hu => ?_⟩
    have hj : k + j < L.length := by have := (List.getElem?_eq_some_iff.1 hu).1; rw [intsV_length, List.length_drop] at this; omega
    rw [Addr.add_mid, Nat.add_assoc, cell_of_row w' b _ _ _ _ (below_block hb h4), h5 (k + j) hj, ← hu, intsV_get _ _ (by rw [List.length_drop]; omega)]
    simp [List.getD_eq_getElem?_getD, List.getElem?_drop]

set_option maxHeartbeats 2000000 in
theorem rpush_newV (L : List Int) (v : Value) (n : Int) (w : World) (h : ZRow w v L) (hl : L.length ≤ 1500) (hn : 1 ≤ n ∧ n ≤ 8) (hm : n ∉ L) : Calls Try.prog 19 #[v, .int .i64 n] w (RowPostV w 0 (L ++ [n])) := by
  obtain ⟨ii, hi, hi0, hi1, hi2⟩ := info_parts intInfoV
  have d1 : decide (n < 1) = false := decide_eq_false (by omega)
  have d2 : decide (8 < n) = false := decide_eq_false (by omega)
  have HAS := Lib.hid (rhasV L v n w h.read (by omega) (decide_eq_false hm))
  have H := Lib.hid h
  obtain ⟨a, c, rfl, _⟩ := h.read
  obtain ⟨m, hml⟩ : ∃ m, m = L.length := ⟨_, rfl⟩
  rw [← hml] at hl HAS H ⊢
  have HM := Lib.hid hml
  have OM := Lib.hid (World.ownsRow_made (base := w.heap.size) (e := 3) (size := 1) w #[] 0 (Nat.le_refl _) (by decide) rfl)
  have AM : Hid (Below w.heap.size w (w.alloc (.cells #[] 3))) := Lib.hid ((Below.refl _ _).alloc (Nat.le_refl _) _)
  have CUT := H.out.cut HM.out
  clear h hm hml hn
  rcases CUT with ⟨rfl, rfl, rfl⟩ | ⟨b, o, rfl, hmc, hcm, hbl, hall⟩
  · obtain rfl : m = 0 := HM.out
    go_enter Try.func19, Try.ntmps19
    go_wp2_with (first
      | (go_at_call 18; refine HAS.out.mono ?_; rintro e w' ⟨rfl, rfl⟩)
      | (at_builtin; refine wpList_append_own_none rfl (.tmp 18) (.tmp 19) 26 rfl w.heap.size 3 ii 1 Try.underlying26 hi _ 0 [] rfl OM.out rfl ?_; obtain ⟨w1, hw1⟩ : ∃ w1, w1 = w.alloc (.cells #[] 3) := ⟨_, rfl⟩; rw [← hw1] at OM AM ⊢; clear hw1; have O1 := Lib.hid (OM.out.alloc (.cells #[.int .i64 n] 3)); have A1 := Lib.hid (AM.out.alloc AM.out.size (.cells #[.int .i64 n] 3)))
      | (at_builtin; refine wpList_append_own _ rfl (.tmp 21) (.tmp 23) 26 rfl w.heap.size 3 ii (.int .i64 0) 1 8 Try.underlying26 hi hi0 hi1 hi2 rfl (by decide) _ 0 _ rfl O1.out ⟨w1.heap.size, 0, none⟩ 1 1 [.int .i64 n] rfl rfl (one_atV _ _ _) (by simp [Value.oneCell']) (by decide) (by decide) A1.out.size ?_; intro v2 w2 ho hg _; have O2 := Lib.hid ho; have A2 := Lib.hid (A1.out.grown hg A1.out.size (fun k hk => (O1.out.lt k hk).1)); clear ho hg))
    go_ret2
    exact ⟨_, rfl, own_zrow (base := w.heap.size) (L := [n]) (by exact O2.out), A2.out⟩
  · have T1 : Hid (∀ j u, (intsV L)[j]? = some u → (w.alloc (.cells #[] 3)).cell? ((⟨b, o, none⟩ : Addr).add j) = some u) := Lib.hid (by
      have := hall 0 _ AM.out
      rwa [List.drop_zero, Nat.add_zero] at this)
    clear hall
    go_enter Try.func19, Try.ntmps19
    go_wp2_with (first
      | (go_at_call 18; refine HAS.out.mono ?_; rintro e w' ⟨rfl, rfl⟩)
      | (at_builtin; refine wpList_append_own _ rfl (.tmp 18) (.tmp 19) 26 rfl w.heap.size 3 ii (.int .i64 0) 1 8 Try.underlying26 hi hi0 hi1 hi2 rfl (by decide) _ 0 [] rfl OM.out ⟨b, o, none⟩ m c (intsV L) rfl (by rw [intsV_length, HM.out, Nat.mul_one]) T1.out intsV_one (by unfold maxLen; omega) (by omega) AM.out.size ?_; intro v1 w1 ho hg _; have A1 := Lib.hid ((AM.out.grown hg AM.out.size (fun k hk => (OM.out.lt k hk).1)).alloc (Nat.le_trans AM.out.size hg.size) (.cells #[.int .i64 n] 3)); have O1 := Lib.hid (ho.alloc (.cells #[.int .i64 n] 3)); clear ho hg)
      | (at_builtin; refine wpList_append_own _ rfl (.tmp 21) (.tmp 23) 26 rfl w.heap.size 3 ii (.int .i64 0) 1 8 Try.underlying26 hi hi0 hi1 hi2 rfl (by decide) _ _ _ rfl O1.out ⟨w1.heap.size, 0, none⟩ 1 1 [.int .i64 n] rfl rfl (one_atV _ _ _) (by simp [Value.oneCell']) (by unfold maxLen; omega) (by omega) A1.out.size ?_; intro v2 w2 ho hg _; have O2 := Lib.hid ho; have A2 := Lib.hid (A1.out.grown hg A1.out.size (fun k hk => (O1.out.lt k hk).1)); clear ho hg))
    go_ret2
    refine ⟨_, rfl, own_zrow (base := w.heap.size) ?_, A2.out⟩
    have e1 : (L ++ [n]).length = 0 + m + 1 := by rw [List.length_append, ← HM.out]; simp
    have e2 : intsV (L ++ [n]) = [] ++ intsV L ++ [.int .i64 n] := by simp [intsV]
    unfold OwnI
    rw [e1, e2]; exact O2.out
theorem rpushV (L : List Int) (v : Value) (n : Int) (w : World) (h : ZRow w v L) (hl : L.length ≤ 1500) : Calls Try.prog 19 #[v, .int .i64 n] w (RowPostV w (pushE L n) (pushL L n)) := by
  have H := Lib.hid h
  obtain ⟨a, c, rfl, _⟩ := h.read
  clear h
  rcases numV_ways n with ⟨hn, hway⟩ | ⟨hn, hb⟩
  · have E : Hid (pushE L n = 2 ∧ pushL L n = L) := Lib.hid (by simp [pushE, pushL, hn])
    rw [E.out.1, E.out.2]
    clear hn
    rcases hway with h1 | ⟨h1, h2⟩
    · have d1 : decide (n < 1) = true := decide_eq_true h1
      go_enter Try.func19, Try.ntmps19
      go_wp2
      go_ret2
      exact ⟨_, rfl, H.out, Below.refl _ _⟩
    · have d1 : decide (n < 1) = false := decide_eq_false (by omega)
      have d2 : decide (8 < n) = true := decide_eq_true h2
      go_enter Try.func19, Try.ntmps19
      go_wp2
      go_ret2
      exact ⟨_, rfl, H.out, Below.refl _ _⟩
  · by_cases hm : n ∈ L
    · have E : Hid (pushE L n = 5 ∧ pushL L n = L) := Lib.hid (by simp [pushE, pushL, hn, hm])
      rw [E.out.1, E.out.2]
      have d1 : decide (n < 1) = false := decide_eq_false (by omega)
      have d2 : decide (8 < n) = false := decide_eq_false (by omega)
      have HAS := Lib.hid (rhasV L _ n w H.out.read (by omega) (decide_eq_true hm))
      clear hn hm hb
      go_enter Try.func19, Try.ntmps19
      go_wp2_with (go_at_call 18; refine HAS.out.mono ?_; rintro e w' ⟨rfl, rfl⟩)
      go_ret2
      exact ⟨_, rfl, H.out, Below.refl _ _⟩
    · rw [show pushE L n = 0 by simp [pushE, hn, hm], show pushL L n = L ++ [n] by simp [pushL, hn, hm]]
      exact rpush_newV L _ n w H.out hl hb hm

theorem drop_takeV (L : List Int) (n : Int) (k : Nat) (h : k < L.length) : (L.take (k + 1)).filter (· != n) = if L.getD k 0 = n then (L.take k).filter (· != n) else (L.take k).filter (· != n) ++ [L.getD k 0] := by
  rw [List.take_succ_eq_append_getElem h, List.getD_eq_getElem?_getD, List.getElem?_eq_getElem h, Option.getD_some, List.filter_append]
  by_cases e : L[k] = n
  · simp [e]
  · simp [e]
set_option maxHeartbeats 2000000 in
theorem rdropV (L : List Int) (v : Value) (n : Int) (w : World) (h : ZRow w v L) (hl : L.length ≤ 1500) : Calls Try.prog 20 #[v, .int .i64 n] w (RowPostV w (dropEV L n) (dropLV L n)) := by
  obtain ⟨ii, hi, hi0, hi1, hi2⟩ := info_parts intInfoV
  have H := Lib.hid h
  obtain ⟨a, c, rfl, hc⟩ := h.read.open_
  have HC := Lib.hid hc
  clear h hc
  rcases numV_ways n with ⟨hn, hway⟩ | ⟨hn, hb⟩
  · have E : Hid (dropEV L n = 2 ∧ dropLV L n = L) := Lib.hid (by simp [dropEV, dropLV, hn])
    rw [E.out.1, E.out.2]
    clear hn
    rcases hway with h1 | ⟨h1, h2⟩
    · have d1 : decide (n < 1) = true := decide_eq_true h1
      go_enter Try.func20, Try.ntmps20
      go_wp2
      go_ret2
      exact ⟨_, rfl, H.out, Below.refl _ _⟩
    · have d1 : decide (n < 1) = false := decide_eq_false (by omega)
      have d2 : decide (8 < n) = true := decide_eq_true h2
      go_enter Try.func20, Try.ntmps20
      go_wp2
      go_ret2
      exact ⟨_, rfl, H.out, Below.refl _ _⟩
  · have d1 : decide (n < 1) = false := decide_eq_false (by omega)
    have d2 : decide (8 < n) = false := decide_eq_false (by omega)
    by_cases hm : n ∈ L
    · have E : Hid (dropEV L n = 0 ∧ dropLV L n = L.filter (· != n)) := Lib.hid (by simp [dropEV, dropLV, hn, hm])
      rw [E.out.1, E.out.2]
      have HAS := Lib.hid (rhasV L _ n w H.out.read (by omega) (decide_eq_true hm))
      obtain ⟨m, hml⟩ : ∃ m, m = L.length := ⟨_, rfl⟩
      rw [← hml] at hl HAS ⊢
      have HM := Lib.hid hml
      clear hn hm hml hb
      go_enter Try.func20, Try.ntmps20
      go_wp2_with (go_at_call 18; refine HAS.out.mono ?_; rintro e w' ⟨rfl, rfl⟩)
      go_loopw [6, 7] (fun l i wr => ∃ k : Nat, i = .int .i64 (k : Int) ∧ k ≤ m ∧ OwnI wr w.heap.size l ((L.take k).filter (· != n)) ∧ Below w.heap.size w wr) (fun _ i _ => m - (intOf i).toNat)
      case atStart => exact ⟨0, rfl, Nat.zero_le _, World.ownsRow_nil _ _ _ _, Below.refl _ _⟩
      case round =>
        obtain ⟨k, rfl, hk, ho, hb⟩ := hrel
        have O := Lib.hid ho
        have B := Lib.hid hb
        clear ho
        by_cases hlt : k < m
        · obtain ⟨b, o, rfl, hbl, hcell⟩ := HC.out k (by have := HM.out; omega)
          have ck := hcell wr hb
          have hdt := drop_takeV L n k (by have := HM.out; omega)
          have hdl : ((L.take k).filter (· != n)).length ≤ 1500 := Nat.le_trans (List.length_filter_le _ _) (by rw [List.length_take]; omega)
          obtain ⟨x, hx⟩ : ∃ x, x = L.getD k 0 := ⟨_, rfl⟩
          rw [← hx] at ck hdt
          clear hcell hb hx
          by_cases he : x = n
          · subst he
            rw [if_pos rfl] at hdt
            have DT := Lib.hid hdt
            clear hdt
            go_wp2
            go_roundw
            case rel => exact ⟨k + 1, by go_num, by omega, by rw [DT.out]; exact O.out, B.out⟩
            case measure => simp [intOf]; omega
          · rw [if_neg he] at hdt
            have DT := Lib.hid hdt
            have hb' : (x == n) = false := by simp [he]
            have O2 := Lib.hid (O.out.alloc (.cells #[.int .i64 x] 3))
            have B2 := Lib.hid (B.out.alloc B.out.size (.cells #[.int .i64 x] 3))
            clear hdt
            go_wp2_with (at_builtin; refine wpList_append_own _ rfl (.tmp 32) (.tmp 37) 26 rfl w.heap.size 3 ii (.int .i64 0) 1 8 Try.underlying26 hi hi0 hi1 hi2 rfl (by decide) _ ((L.take k).filter (· != n)).length _ rfl O2.out ⟨wr.heap.size, 0, none⟩ 1 1 [.int .i64 x] rfl rfl (one_atV wr _ _) (by simp [Value.oneCell']) (by unfold maxLen; omega) (by omega) B2.out.size ?_; intro v3 w3 ho hg _)
            have O3 : Hid (OwnI w3 w.heap.size v3 ((L.take (k + 1)).filter (· != n))) := Lib.hid (by unfold OwnI; rw [DT.out, intsV_snoc, List.length_append]; exact ho)
            have B3 := Lib.hid (B2.out.grown hg B2.out.size (fun k hk => (O2.out.lt k hk).1))
            clear ho hg
            go_wp2
            go_roundw
            case rel => exact ⟨k + 1, by go_num, by omega, O3.out, B3.out⟩
            case measure => simp [intOf]; omega
        · obtain rfl : k = m := by omega
          have OO := O.out
          rw [HM.out, List.take_length] at OO
          have OO := Lib.hid OO
          clear hb hlt
          go_wp2
          go_ret2
          exact ⟨_, rfl, own_zrow OO.out, B.out⟩
    · have E : Hid (dropEV L n = 4 ∧ dropLV L n = L) := Lib.hid ⟨by simp [dropEV, hn, hm], by
        rw [dropLV, if_pos hn]; exact List.filter_eq_self.2 (fun x hx => by simp; rintro rfl; exact hm hx)⟩
      rw [E.out.1, E.out.2]
      have HAS := Lib.hid (rhasV L _ n w H.out.read (by omega) (decide_eq_false hm))
      clear hn hm hb
      go_enter Try.func20, Try.ntmps20
      go_wp2_with (go_at_call 18; refine HAS.out.mono ?_; rintro e w' ⟨rfl, rfl⟩)
      go_ret2
      exact ⟨_, rfl, H.out, Below.refl _ _⟩

set_option maxHeartbeats 2000000 in
theorem rturnV (L : List Int) (v : Value) (w : World) (h : ZRow w v L) (hl : L.length ≤ 1500) : Calls Try.prog 21 #[v] w (RowPostV w (turnA L).1 (turnA L).2) := by
  obtain ⟨ii, hi, hi0, hi1, hi2⟩ := info_parts intInfoV
  have H := Lib.hid h
  obtain ⟨a, c, rfl, hc⟩ := h.read.open_
  have HC := Lib.hid hc
  clear h hc
  cases L with
  | nil =>
    simp only [turnA]
    have H2 : ZRow w (.slice a 0 c) [] := H.out
    clear H
    have H := Lib.hid H2
    clear H2
    go_enter Try.func21, Try.ntmps21
    go_wp2
    go_ret2
    exact ⟨_, rfl, H.out, Below.refl _ _⟩
  | cons x r =>
    simp only [turnA]
    obtain ⟨m, hml⟩ : ∃ m, m = r.length := ⟨_, rfl⟩
    have hlen : (x :: r).length = m + 1 := by rw [hml]; rfl
    rw [hlen] at hl H ⊢
    have HM := Lib.hid hml
    have CUT := H.out.cut hlen.symm
    have c0 := HC.out 0 (by simp)
    clear hml hlen
    rcases CUT with ⟨_, _, hh⟩ | ⟨b, o, rfl, hmc, hcm, hbl, hall⟩
    · cases hh
    · obtain ⟨b', o', hbo, _, hcell⟩ := c0
      cases hbo
      have CELL := Lib.hid hcell
      have OM := Lib.hid (World.ownsRow_made (base := w.heap.size) (e := 3) (size := 1) w #[] 0 (Nat.le_refl _) (by decide) rfl)
      have AM : Hid (Below w.heap.size w (w.alloc (.cells #[] 3))) := Lib.hid ((Below.refl _ _).alloc (Nat.le_refl _) _)
      have T1 : Hid (∀ j u, (intsV r)[j]? = some u → (w.alloc (.cells #[] 3)).cell? ((⟨b, o + 1, none⟩ : Addr).add j) = some u) := Lib.hid (hall 1 _ AM.out)
      have T2 : Hid (r = [] → ∀ j u, (intsV r)[j]? = some u → (w.alloc (.cells #[] 3)).cell? ((⟨b, o, none⟩ : Addr).add j) = some u) := Lib.hid (fun e j u hu => by subst e; simp [intsV] at hu)
      clear hall hcell
      have CX : Hid (∀ w', Below w.heap.size w w' → w'.cell? ⟨b, o, none⟩ = some (.int .i64 x)) := Lib.hid (fun w' hb => CELL.out w' hb)
      have fin : ∀ (v2 : Value) (w2 : World), w2.ownsRow w.heap.size 3 1 v2 (0 + m + 1) ([] ++ intsV r ++ [.int .i64 x]) → ZRow w2 v2 (r ++ [x]) := fun v2 w2 h => own_zrow (base := w.heap.size) (by
        have e1 : (r ++ [x]).length = 0 + m + 1 := by rw [List.length_append, ← HM.out]; simp
        have e2 : intsV (r ++ [x]) = [] ++ intsV r ++ [.int .i64 x] := by simp [intsV]
        unfold OwnI
        rw [e1, e2]; exact h)
      have FIN := Lib.hid fin
      clear fin CELL HC H
      have hway : c ≠ 1 ∨ (c = 1 ∧ m = 0) := by omega
      rcases hway with hc1 | ⟨rfl, rfl⟩
      · go_enter Try.func21, Try.ntmps21
        go_wp2_with (first
          | (at_builtin; refine wpList_append_own _ rfl (.tmp 9) (.tmp 11) 26 rfl w.heap.size 3 ii (.int .i64 0) 1 8 Try.underlying26 hi hi0 hi1 hi2 rfl (by decide) _ 0 [] rfl OM.out ⟨b, o + 1, none⟩ m _ (intsV r) rfl (by rw [intsV_length, HM.out, Nat.mul_one]) T1.out intsV_one (by unfold maxLen; omega) (by omega) AM.out.size ?_; intro v1 w1 ho hg _; have A0 := Lib.hid (AM.out.grown hg AM.out.size (fun k hk => (OM.out.lt k hk).1)); have c0 := CX.out w1 A0.out; have A1 := Lib.hid (A0.out.alloc A0.out.size (.cells #[.int .i64 x] 3)); have O1 := Lib.hid (ho.alloc (.cells #[.int .i64 x] 3)); clear ho hg)
          | (at_builtin; refine wpList_append_own _ rfl (.tmp 13) (.tmp 17) 26 rfl w.heap.size 3 ii (.int .i64 0) 1 8 Try.underlying26 hi hi0 hi1 hi2 rfl (by decide) _ _ _ rfl O1.out ⟨w1.heap.size, 0, none⟩ 1 1 [.int .i64 x] rfl rfl (one_atV _ _ _) (by simp [Value.oneCell']) (by unfold maxLen; omega) (by omega) A1.out.size ?_; intro v2 w2 ho hg _; have O2 := Lib.hid ho; have A2 := Lib.hid (A1.out.grown hg A1.out.size (fun k hk => (O1.out.lt k hk).1)); clear ho hg))
        go_ret2
        exact ⟨_, rfl, FIN.out _ _ O2.out, A2.out⟩
      · have HR : Hid (r = []) := Lib.hid (List.eq_nil_of_length_eq_zero HM.out.symm)
        go_enter Try.func21, Try.ntmps21
        go_wp2_with (first
          | (at_builtin; refine wpList_append_own _ rfl (.tmp 9) (.tmp 11) 26 rfl w.heap.size 3 ii (.int .i64 0) 1 8 Try.underlying26 hi hi0 hi1 hi2 rfl (by decide) _ 0 [] rfl OM.out ⟨b, o, none⟩ 0 _ (intsV r) rfl (by rw [intsV_length, ← HM.out]) (T2.out HR.out) intsV_one (by unfold maxLen; omega) (by omega) AM.out.size ?_; intro v1 w1 ho hg _; have A0 := Lib.hid (AM.out.grown hg AM.out.size (fun k hk => (OM.out.lt k hk).1)); have c0 := CX.out w1 A0.out; have A1 := Lib.hid (A0.out.alloc A0.out.size (.cells #[.int .i64 x] 3)); have O1 := Lib.hid (ho.alloc (.cells #[.int .i64 x] 3)); clear ho hg)
          | (at_builtin; refine wpList_append_own _ rfl (.tmp 13) (.tmp 17) 26 rfl w.heap.size 3 ii (.int .i64 0) 1 8 Try.underlying26 hi hi0 hi1 hi2 rfl (by decide) _ _ _ rfl O1.out ⟨w1.heap.size, 0, none⟩ 1 1 [.int .i64 x] rfl rfl (one_atV _ _ _) (by simp [Value.oneCell']) (by unfold maxLen; omega) (by omega) A1.out.size ?_; intro v2 w2 ho hg _; have O2 := Lib.hid ho; have A2 := Lib.hid (A1.out.grown hg A1.out.size (fun k hk => (O1.out.lt k hk).1)); clear ho hg))
        go_ret2
        exact ⟨_, rfl, FIN.out _ _ O2.out, A2.out⟩
end Go.Proofs.Ytmkoflmhopefhaa
