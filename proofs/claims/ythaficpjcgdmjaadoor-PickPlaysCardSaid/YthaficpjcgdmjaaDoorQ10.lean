/- The contracts of the document's own New, Drop, layer 8. Condition: the row lies in memory. -/
import Derived.Test.YthaficpjcgdmjaaDoorQ9
namespace Go.Proofs.YthaficpjcgdmjaaDoor
open Go.RowKit
set_option maxRecDepth 100000

theorem rnew_no (n m : Int) (w : World) (hn : -9223372036854775808 ≤ n ∧ n ≤ 9223372036854775807) (hm : -9223372036854775808 ≤ m ∧ m ≤ 9223372036854775807) (h : newB n m = false) : Calls Tryd.prog 10 #[.int .i64 n, .int .i64 m] w fun e w' => e = .returned (.tuple #[.slice none 0 0, .int .i64 2]) ∧ w = w' := by
  have h2 : n < 0 ∨ (0 ≤ n ∧ 1023 < n) ∨ (0 ≤ n ∧ n ≤ 1023 ∧ m < 0) ∨ (0 ≤ n ∧ n ≤ 1023 ∧ 0 ≤ m ∧ 1024 - n < m) := by
    have : ¬ newB n m = true := by rw [h]; exact Bool.false_ne_true
    simp only [newB, numB, Bool.and_eq_true, decide_eq_true_eq] at this
    omega
  clear h
  rcases h2 with h2 | ⟨h2, h3⟩ | ⟨h2, h3, h4⟩ | ⟨h2, h3, h4, h5⟩
  · have d1 : decide (n < 0) = true := decide_eq_true h2
    go_enter Tryd.func10, Tryd.ntmps10
    go_wp2
    go_ret2
    exact ⟨rfl, rfl⟩
  · have d1 : decide (n < 0) = false := decide_eq_false (by omega)
    have d2 : decide (1023 < n) = true := decide_eq_true h3
    go_enter Tryd.func10, Tryd.ntmps10
    go_wp2
    go_ret2
    exact ⟨rfl, rfl⟩
  · have d1 : decide (n < 0) = false := decide_eq_false (by omega)
    have d2 : decide (1023 < n) = false := decide_eq_false (by omega)
    have d3 : decide (m < 0) = true := decide_eq_true h4
    go_enter Tryd.func10, Tryd.ntmps10
    go_wp2
    go_ret2
    exact ⟨rfl, rfl⟩
  · have d1 : decide (n < 0) = false := decide_eq_false (by omega)
    have d2 : decide (1023 < n) = false := decide_eq_false (by omega)
    have d3 : decide (m < 0) = false := decide_eq_false (by omega)
    have d4 : decide (1024 - n < m) = true := decide_eq_true h5
    go_enter Tryd.func10, Tryd.ntmps10
    go_wp2
    go_ret2
    exact ⟨rfl, rfl⟩
theorem span_snoc (n k : Nat) : span n (k + 1) = span n k ++ [n + k] := by simp [span, List.range'_concat]
def RowPost (w : World) (k : Int) (L : List Nat) (e : Ending) (w' : World) : Prop := ∃ v, e = .returned (.tuple #[v, .int .i64 k]) ∧ IRow w' v L ∧ Below w.heap.size w w'
set_option maxHeartbeats 1000000 in
theorem rnew_yes (n m : Nat) (w : World) (hn : n < 1024) (h : n + m ≤ 1024) : Calls Tryd.prog 10 #[.int .i64 n, .int .i64 m] w (RowPost w 0 (span n m)) := by
  obtain ⟨ii, hi, hi0, hi1, hi2⟩ := info_parts intInfoQ
  have d1 : decide ((n : Int) < 0) = false := decide_eq_false (by omega)
  have d2 : decide (1023 < (n : Int)) = false := decide_eq_false (by omega)
  have d3 : decide ((m : Int) < 0) = false := decide_eq_false (by omega)
  have d4 : decide (1024 - (n : Int) < (m : Int)) = false := decide_eq_false (by omega)
  go_enter Tryd.func10, Tryd.ntmps10
  go_wp2_with fail
  go_loopw [6, 7] (fun l i wr => ∃ k : Nat, i = .int .i64 (k : Int) ∧ k ≤ m ∧ wr.ownsRow w.heap.size 3 1 l (span n k).length (natsV (span n k)) ∧ Below w.heap.size w wr) (fun _ i _ => m - (intOf i).toNat)
  case atStart => exact ⟨0, rfl, Nat.zero_le _, World.ownsRow_nil _ _ _ _, Below.refl _ _⟩
  case round =>
    obtain ⟨k, rfl, hk, ho, hb⟩ := hrel
    have O := Lib.hid ho
    have B := Lib.hid hb
    clear ho hb
    by_cases hlt : k < m
    · have O2 := Lib.hid (O.out.alloc (.cells #[.int .i64 ((n : Int) + (k : Int))] 3))
      have B2 := Lib.hid (B.out.alloc B.out.size (.cells #[.int .i64 ((n : Int) + (k : Int))] 3))
      have hsl := span_length n k
      go_wp2_with (at_builtin; refine wpList_append_own _ rfl (.tmp 29) (.tmp 33) 28 rfl w.heap.size 3 ii (.int .i64 0) 1 8 Tryd.underlying28 hi hi0 hi1 hi2 rfl (by decide) _ (span n k).length _ rfl O2.out ⟨wr.heap.size, 0, none⟩ 1 1 [.int .i64 ((n : Int) + (k : Int))] rfl rfl (one_atQ wr _ _) (by simp [Value.oneCell']) (by unfold maxLen; omega) (by omega) B2.out.size ?_; intro v3 w3 ho hg _)
      have O3 : Hid (w3.ownsRow w.heap.size 3 1 v3 (span n (k + 1)).length (natsV (span n (k + 1)))) := Lib.hid (by rw [span_snoc, natsV_snoc, List.length_append, show ((n + k : Nat) : Int) = (n : Int) + (k : Int) by omega]; exact ho)
      have B3 := Lib.hid (B2.out.grown hg B2.out.size (fun k hk => (O2.out.lt k hk).1))
      clear ho hg
      go_wp2
      go_roundw
      case rel => exact ⟨k + 1, by go_num, by omega, O3.out, B3.out⟩
      case measure => simp [intOf]; omega
    · obtain rfl : k = m := by omega
      go_wp2
      go_ret2
      exact ⟨_, rfl, own_irow O.out, B.out⟩

def rputA (L : List Nat) (n : Int) : Int × List Nat := (putE L n, putL L n)
theorem in_num (L : List Nat) (n : Int) (h : numB n = true) : inL L n = decide (n.toNat ∈ L) := by
  have := ((numB_iff n).1 h).1
  simp [inL, this]
theorem num_ways (n : Int) : (numB n = false ∧ (n < 0 ∨ (0 ≤ n ∧ 1023 < n))) ∨ ∃ k : Nat, n = k ∧ k < 1024 ∧ numB n = true := by
  cases h : numB n with
  | false =>
    refine Or.inl ⟨rfl, ?_⟩
    have : ¬ numB n = true := by rw [h]; exact Bool.false_ne_true
    rw [numB_iff] at this
    omega
  | true =>
    obtain ⟨k, rfl, h1, _⟩ := nat_num n h
    exact Or.inr ⟨k, rfl, h1, rfl⟩
theorem del_take_succ (L : List Nat) (n k : Nat) (h : k < L.length) : del (L.take (k + 1)) n = if L.getD k 0 = n then del (L.take k) n else del (L.take k) n ++ [L.getD k 0] := by
  rw [List.take_succ_eq_append_getElem h, List.getD_eq_getElem?_getD, List.getElem?_eq_getElem h]
  unfold del
  rw [List.filter_append]
  by_cases e : L[k] = n
  · simp [e]
  · simp [e]
set_option maxHeartbeats 2000000 in
theorem rdrop_ok (L : List Nat) (v : Value) (n : Int) (w : World) (h : IRow w v L) (hl : L.length ≤ 2000) : Calls Tryd.prog 14 #[v, .int .i64 n] w (RowPost w (dropE L n) (dropL L n)) := by
  obtain ⟨ii, hi, hi0, hi1, hi2⟩ := info_parts intInfoQ
  have H := Lib.hid h
  obtain ⟨a, c, rfl, hc⟩ := h.open_
  have HC := Lib.hid hc
  clear h hc
  rcases num_ways n with ⟨hn, hway⟩ | ⟨n, rfl, hn1, hn⟩
  · have E : Hid (dropE L n = 2 ∧ dropL L n = L) := Lib.hid (by simp [dropE, dropL, hn])
    rw [E.out.1, E.out.2]
    clear hn
    rcases hway with h1 | ⟨h1, h2⟩
    · have d1 : decide (n < 0) = true := decide_eq_true h1
      go_enter Tryd.func14, Tryd.ntmps14
      go_wp2
      go_ret2
      exact ⟨_, rfl, H.out, Below.refl _ _⟩
    · have d1 : decide (n < 0) = false := decide_eq_false (by omega)
      have d2 : decide (1023 < n) = true := decide_eq_true h2
      go_enter Tryd.func14, Tryd.ntmps14
      go_wp2
      go_ret2
      exact ⟨_, rfl, H.out, Below.refl _ _⟩
  · have d1 : decide ((n : Int) < 0) = false := decide_eq_false (by omega)
    have d2 : decide (1023 < (n : Int)) = false := decide_eq_false (by omega)
    have hhas := rhas_ok L _ (n : Int) w H.out hl
    have hin := in_num L n hn
    rw [Int.toNat_natCast] at hin
    by_cases hm : n ∈ L
    · have E : Hid (dropE L n = 0 ∧ dropL L n = del L n) := Lib.hid (by simp [dropE, dropL, hn, hm])
      rw [E.out.1, E.out.2]
      rw [hin, decide_eq_true hm] at hhas
      have HAS := Lib.hid hhas
      obtain ⟨m, hml⟩ : ∃ m, m = L.length := ⟨_, rfl⟩
      rw [← hml] at hl HAS ⊢
      have HM := Lib.hid hml
      clear hhas hin hn hm hml
      go_enter Tryd.func14, Tryd.ntmps14
      go_wp2_with (go_at_call 18; refine HAS.out.mono ?_; rintro e w' ⟨rfl, rfl⟩)
      go_loopw [6, 7] (fun l i wr => ∃ k : Nat, i = .int .i64 (k : Int) ∧ k ≤ m ∧ wr.ownsRow w.heap.size 3 1 l (del (L.take k) n).length (natsV (del (L.take k) n)) ∧ Below w.heap.size w wr) (fun _ i _ => m - (intOf i).toNat)
      case atStart => exact ⟨0, rfl, Nat.zero_le _, World.ownsRow_nil _ _ _ _, Below.refl _ _⟩
      case round =>
        obtain ⟨k, rfl, hk, ho, hb⟩ := hrel
        have O := Lib.hid ho
        have B := Lib.hid hb
        clear ho
        by_cases hlt : k < m
        · obtain ⟨b, o, rfl, hbl, hcell⟩ := HC.out k (by have := HM.out; omega)
          have ck := (hb.cell (p := ⟨b, o + k, none⟩) hbl).trans (hcell k (by have := HM.out; omega))
          have hdt := del_take_succ L n k (by have := HM.out; omega)
          have hdl : (del (L.take k) n).length ≤ 2000 := Nat.le_trans (List.length_filter_le _ _) (by rw [List.length_take]; omega)
          obtain ⟨x, hx⟩ : ∃ x, x = L.getD k 0 := ⟨_, rfl⟩
          rw [← hx] at ck hdt
          clear hcell hb hx
          by_cases he : x = n
          · subst he
            rw [if_pos rfl] at hdt
            have DT := Lib.hid hdt
            clear hdt
            go_wp2
            go_roundw
            case rel => exact ⟨k + 1, by go_num, by omega, by rw [DT.out]; exact O.out, B.out⟩
            case measure => simp [intOf]; omega
          · rw [if_neg he] at hdt
            have DT := Lib.hid hdt
            have hb' : ((x : Int) == (n : Int)) = false := by simp; omega
            have O2 := Lib.hid (O.out.alloc (.cells #[.int .i64 (x : Int)] 3))
            have B2 := Lib.hid (B.out.alloc B.out.size (.cells #[.int .i64 (x : Int)] 3))
            clear hdt
            go_wp2_with (at_builtin; refine wpList_append_own _ rfl (.tmp 32) (.tmp 37) 28 rfl w.heap.size 3 ii (.int .i64 0) 1 8 Tryd.underlying28 hi hi0 hi1 hi2 rfl (by decide) _ (del (L.take k) n).length _ rfl O2.out ⟨wr.heap.size, 0, none⟩ 1 1 [.int .i64 (x : Int)] rfl rfl (one_atQ wr _ _) (by simp [Value.oneCell']) (by unfold maxLen; omega) (by omega) B2.out.size ?_; intro v3 w3 ho hg _)
            have O3 : Hid (w3.ownsRow w.heap.size 3 1 v3 (del (L.take (k + 1)) n).length (natsV (del (L.take (k + 1)) n))) := Lib.hid (by rw [DT.out, natsV_snoc, List.length_append]; exact ho)
            have B3 := Lib.hid (B2.out.grown hg B2.out.size (fun k hk => (O2.out.lt k hk).1))
            clear ho hg
            go_wp2
            go_roundw
            case rel => exact ⟨k + 1, by go_num, by omega, O3.out, B3.out⟩
            case measure => simp [intOf]; omega
        · obtain rfl : k = m := by omega
          clear hb
          go_wp2
          go_ret2
          exact ⟨_, rfl, own_irow (by have := O.out; rwa [HM.out, List.take_length] at this), B.out⟩
    · have E : Hid (dropE L n = 4 ∧ dropL L n = L) := Lib.hid (by simp [dropE, dropL, hn, hm])
      rw [E.out.1, E.out.2]
      rw [hin, decide_eq_false hm] at hhas
      have HAS := Lib.hid hhas
      clear hhas hin hn hm
      go_enter Tryd.func14, Tryd.ntmps14
      go_wp2_with (go_at_call 18; refine HAS.out.mono ?_; rintro e w' ⟨rfl, rfl⟩)
      go_ret2
      exact ⟨_, rfl, H.out, Below.refl _ _⟩
end Go.Proofs.YthaficpjcgdmjaaDoor
