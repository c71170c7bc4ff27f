/- The walk of PickSpan. Condition: the library's table reads as its initialiser lays it. -/
import Derived.Test.YthaficpjcgdmjaaDoorQ12
namespace Go.Proofs.YthaficpjcgdmjaaDoor
open Go.RowKit
set_option maxRecDepth 100000

theorem del_length : ∀ (L : List Nat) (n : Nat), L.Pairwise (· < ·) → n ∈ L → (del L n).length + 1 = L.length
  | [], n, _, h => by simp at h
  | x :: r, n, hp, h => by
    obtain ⟨h1, h2⟩ := List.pairwise_cons.1 hp
    by_cases e : x = n
    · subst e
      have h3 : ∀ m ∈ r, (m != x) = true := fun m hm => by have := h1 m hm; simp; omega
      simp [del, List.filter_eq_self.2 h3]
    · have hr : n ∈ r := by
        rcases List.mem_cons.1 h with h | h
        · exact absurd h.symm e
        · exact h
      have := del_length r n h2 hr
      have e2 : del (x :: r) n = x :: del r n := by simp [del, e]
      rw [e2, List.length_cons, List.length_cons, this]
theorem span_bad (f m : Nat) (n : Int) (h : numB n = false) : hasB' (span f m) n = false ∧ dropE (span f m) n = 2 ∧ dropL (span f m) n = span f m ∧ putE (span f m) n = 2 ∧ putL (span f m) n = span f m := by
  simp [hasB', dropE, dropL, putE, putL, h]
theorem span_out (f m : Nat) (n : Nat) (hn : n < 1024) (h : n ∉ span f m) : hasB' (span f m) (n : Int) = false ∧ dropE (span f m) (n : Int) = 4 ∧ dropL (span f m) (n : Int) = span f m ∧ putE (span f m) (n : Int) = 0 ∧ putL (span f m) (n : Int) = ins (span f m) n ∧ (ins (span f m) n).length = m + 1 ∧ hasB' (ins (span f m) n) (n : Int) = true := by
  have h1 : numB (n : Int) = true := (numB_iff _).2 (by omega)
  refine ⟨by simp [hasB', h], by simp [dropE, h1, h], by simp [dropL, h], by simp [putE, h1, h], by simp [putL, h1, h], by rw [ins_length, span_length], by simp [hasB', h1, mem_ins]⟩
theorem span_in (f m : Nat) (n : Nat) (hn : n < 1024) (h : n ∈ span f m) : hasB' (span f m) (n : Int) = true ∧ dropE (span f m) (n : Int) = 0 ∧ dropL (span f m) (n : Int) = del (span f m) n ∧ putE (del (span f m) n) (n : Int) = 0 ∧ putL (del (span f m) n) (n : Int) = ins (del (span f m) n) n ∧ (ins (del (span f m) n) n).length = m ∧ hasB' (ins (del (span f m) n) n) (n : Int) = true := by
  have h1 : numB (n : Int) = true := (numB_iff _).2 (by omega)
  have h2 : n ∉ del (span f m) n := by rw [mem_del]; simp
  refine ⟨by simp [hasB', h, h1], by simp [dropE, h1, h], by simp [dropL, h, h1], by simp [putE, h1, h2], by simp [putL, h1, h2], ?_, by simp [hasB', h1, mem_ins]⟩
  have := del_length _ n (span_up f m) h
  rw [span_length] at this
  rw [ins_length]; omega

set_option maxHeartbeats 2000000 in
theorem span_no (f m n : Int) (W : World) (hf : -9223372036854775808 ≤ f ∧ f ≤ 9223372036854775807) (hm : -9223372036854775808 ≤ m ∧ m ≤ 9223372036854775807) (hT : LaidQ W) (h : newB f m = false) : Calls Tryd.prog 7 #[.int .i64 f, .int .i64 m, .int .i64 n] W fun e w' => e = .returned (.bool true) ∧ Below W.heap.size W w' := by
  have HT := Lib.hid hT
  have C := Lib.hid (new_bad f m W hf hm h)
  clear hT h hf hm
  go_enter Tryd.func7, Tryd.ntmps7
  go_wp2_with (first
    | (go_at_call 9; refine C.out.mono ?_; rintro e w' ⟨rfl, rfl⟩)
    | (go_at_call 8; refine (awake8 _ HT.out).mono ?_; rintro e w2 ⟨rfl, hb⟩; have B := Lib.hid hb; clear hb))
  go_ret
  exact ⟨rfl, B.out⟩
/-- The calls of the law on one set. -/
structure Spans (L K : List Nat) (n : Int) (x : Bool) (f g : Int) : Prop where
  has : hasB' L n = x
  dropE : dropE L n = f
  putE : putE (dropL L n) n = g
  putL : putL (dropL L n) n = K
set_option maxHeartbeats 4000000 in
theorem span_far (f m : Nat) (n : Int) (W : World) (hf : f < 1024) (hm : f + m ≤ 1024) (_hn : -9223372036854775808 ≤ n ∧ n ≤ 9223372036854775807) (hT : LaidQ W) (hb : numB n = false) : Calls Tryd.prog 7 #[.int .i64 f, .int .i64 m, .int .i64 n] W fun e w' => e = .returned (.bool true) ∧ Below W.heap.size W w' := by
  obtain ⟨s1, s2, s3, s4, s5⟩ := span_bad f m n hb
  have S := Lib.hid (show Spans (span f m) (span f m) n false 2 2 from ⟨s1, s2, by rw [s3]; exact s4, by rw [s3]; exact s5⟩)
  have SL := Lib.hid (span_length f m)
  have DL := Lib.hid s3
  have hway : (n < 0 ∧ decide ((f : Int) ≤ n) = false) ∨ (0 ≤ n ∧ 1024 ≤ n ∧ decide ((f : Int) ≤ n) = true ∧ decide (n < (f : Int) + (m : Int)) = false) := by
    have : ¬ numB n = true := by rw [hb]; exact Bool.false_ne_true
    rw [numB_iff] at this
    by_cases h0 : n < 0
    · exact Or.inl ⟨h0, decide_eq_false (by omega)⟩
    · exact Or.inr ⟨by omega, by omega, decide_eq_true (by omega), decide_eq_false (by omega)⟩
  have C := Lib.hid (new_set f m W hf hm)
  have HT := Lib.hid hT
  generalize span f m = L at *
  clear hT hb s1 s2 s3 s4 s5
  rcases hway with ⟨h0, d1⟩ | ⟨h0, h1, d1, d2⟩
  all_goals
    go_enter Tryd.func7, Tryd.ntmps7
    go_wp2_with (first
      | (go_at_call 9; refine C.out.mono ?_; rintro e w1 hp; obtain ⟨b, rfl, ho⟩ := OwnSet.new HT.out hp; have O1 := Lib.hid ho; clear hp ho)
      | (go_at_call 17; refine (has_is S.out.has O1.out.st).mono ?_; rintro e w2 ⟨rfl, hb⟩; have O2 := Lib.hid (O1.out.step hb); clear hb)
      | (go_at_call 16; refine (len_is SL.out O2.out.st).mono ?_; rintro e w3 ⟨rfl, rfl⟩)
      | (go_at_call 15; refine (drop_is S.out.dropE rfl O2.out.st).mono ?_; rintro e w4 ⟨rfl, ht⟩; have O3 := Lib.hid (O2.out.turn ht); clear ht)
      | (go_at_call 13; refine (put_is S.out.putE S.out.putL O3.out.st).mono ?_; rintro e w5 ⟨rfl, ht⟩; have O4 := Lib.hid (O3.out.turn ht); clear ht)
      | (go_at_call 8; refine (awake8 _ O4.out.table).mono ?_; rintro e w6 ⟨rfl, hb⟩; have O5 := Lib.hid (O4.out.step hb); clear hb))
    go_ret
    exact ⟨rfl, O5.out.below⟩
set_option maxHeartbeats 4000000 in
theorem span_near (f m : Nat) (n : Nat) (W : World) (hf : f < 1024) (hm : f + m ≤ 1024) (hn : n < 1024) (hT : LaidQ W) : Calls Tryd.prog 7 #[.int .i64 f, .int .i64 m, .int .i64 n] W fun e w' => e = .returned (.bool true) ∧ Below W.heap.size W w' := by
  have key : ∃ (x : Bool) (K : List Nat) (a : Int) (p : Nat), Spans (span f m) K (n : Int) x a 0 ∧ K.length = p ∧ hasB' K (n : Int) = true ∧
      ((x = false ∧ a = 4 ∧ p = m + 1 ∧ (decide ((f : Int) ≤ (n : Int)) = false ∨ (decide ((f : Int) ≤ (n : Int)) = true ∧ decide ((n : Int) < (f : Int) + (m : Int)) = false))) ∨ (x = true ∧ a = 0 ∧ p = m ∧ decide ((f : Int) ≤ (n : Int)) = true ∧ decide ((n : Int) < (f : Int) + (m : Int)) = true)) := by
    by_cases h : n ∈ span f m
    · obtain ⟨s1, s2, s3, s4, s5, s6, s7⟩ := span_in f m n hn h
      have h' := (span_mem f m n).1 h
      exact ⟨true, _, 0, m, ⟨s1, s2, by rw [s3]; exact s4, by rw [s3]; exact s5⟩, s6, s7, Or.inr ⟨rfl, rfl, rfl, decide_eq_true (by omega), decide_eq_true (by omega)⟩⟩
    · obtain ⟨s1, s2, s3, s4, s5, s6, s7⟩ := span_out f m n hn h
      have h' : ¬ (f ≤ n ∧ n < f + m) := fun e => h ((span_mem f m n).2 e)
      refine ⟨false, _, 4, m + 1, ⟨s1, s2, by rw [s3]; exact s4, by rw [s3]; exact s5⟩, s6, s7, Or.inl ⟨rfl, rfl, rfl, ?_⟩⟩
      by_cases e : f ≤ n
      · exact Or.inr ⟨decide_eq_true (by omega), decide_eq_false (by omega)⟩
      · exact Or.inl (decide_eq_false (by omega))
  obtain ⟨x, K, a, p, s, sk, sh, hway⟩ := key
  have S := Lib.hid s
  have SK := Lib.hid sk
  have SH := Lib.hid sh
  have SL := Lib.hid (span_length f m)
  have C := Lib.hid (new_set f m W hf hm)
  have HT := Lib.hid hT
  have d3 : decide ((n : Int) < 0) = false := decide_eq_false (by omega)
  have d4 : decide (1024 ≤ (n : Int)) = false := decide_eq_false (by omega)
  generalize span f m = L at *
  clear hT s sk sh hn
  generalize (n : Int) = z at *
  clear n
  rcases hway with ⟨rfl, rfl, rfl, d1 | ⟨d1, d2⟩⟩ | ⟨rfl, rfl, rfl, d1, d2⟩
  all_goals
    go_enter Tryd.func7, Tryd.ntmps7
    go_wp2_with fail
    refine C.out.mono ?_
    rintro e w1 hp
    obtain ⟨b, rfl, ho⟩ := OwnSet.new HT.out hp
    have O1 := Lib.hid ho
    clear hp ho
    go_wp2_with fail
    refine (has_is S.out.has O1.out.st).mono ?_
    rintro e w2 ⟨rfl, hb⟩
    have O2 := Lib.hid (O1.out.step hb)
    clear hb
    go_wp2_with fail
    refine (len_is SL.out O2.out.st).mono ?_
    rintro e w3 ⟨rfl, rfl⟩
    go_wp2_with fail
    refine (drop_is S.out.dropE rfl O2.out.st).mono ?_
    rintro e w4 ⟨rfl, ht⟩
    have O3 := Lib.hid (O2.out.turn ht)
    clear ht
    go_wp2_with fail
    refine (put_is S.out.putE S.out.putL O3.out.st).mono ?_
    rintro e w5 ⟨rfl, ht⟩
    have O4 := Lib.hid (O3.out.turn ht)
    clear ht
    go_wp2_with fail
    refine (len_is SK.out O4.out.st).mono ?_
    rintro e w6 ⟨rfl, rfl⟩
    go_wp2_with fail
    refine (has_is SH.out O4.out.st).mono ?_
    rintro e w7 ⟨rfl, hb⟩
    have O5 := Lib.hid (O4.out.step hb)
    clear hb
    go_wp2_with fail
    refine (awake8 _ O5.out.table).mono ?_
    rintro e w8 ⟨rfl, hb⟩
    have O6 := Lib.hid (O5.out.step hb)
    clear hb
    go_wp2
    go_ret
    exact ⟨rfl, O6.out.below⟩
theorem newB_yes {f m : Int} (h : newB f m = true) : ∃ f' m' : Nat, f = f' ∧ m = m' ∧ f' < 1024 ∧ f' + m' ≤ 1024 := by
  simp only [newB, Bool.and_eq_true, decide_eq_true_eq, numB_iff] at h
  obtain ⟨f', rfl⟩ := Int.eq_ofNat_of_zero_le h.1.1
  obtain ⟨m', rfl⟩ := Int.eq_ofNat_of_zero_le h.2.1
  exact ⟨f', m', rfl, rfl, by omega, by omega⟩
theorem pickSpan_walk (f m n : Int) (W : World) (hf : -9223372036854775808 ≤ f ∧ f ≤ 9223372036854775807) (hm : -9223372036854775808 ≤ m ∧ m ≤ 9223372036854775807) (hn : -9223372036854775808 ≤ n ∧ n ≤ 9223372036854775807) (hT : LaidQ W) : Calls Tryd.prog 7 #[.int .i64 f, .int .i64 m, .int .i64 n] W fun e w' => e = .returned (.bool true) ∧ Below W.heap.size W w' := by
  cases h : newB f m with
  | false => exact span_no f m n W hf hm hT h
  | true =>
    obtain ⟨f, m, rfl, rfl, h1, h2⟩ := newB_yes h
    cases h3 : numB n with
    | false => exact span_far f m n W h1 h2 hn hT h3
    | true =>
      obtain ⟨k, rfl, h4, _⟩ := nat_num n h3
      exact span_near f m k W h1 h2 h4 hT
end Go.Proofs.YthaficpjcgdmjaaDoor
