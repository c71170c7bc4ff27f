/- The contract of package pick's New. No condition. -/
import Derived.Test.YtiohnhgoddfebaaDoorQ7
namespace Go.Proofs.YtiohnhgoddfebaaDoor
open Go.RowKit
set_option maxRecDepth 100000

/-- The numbers of a range. -/
def span (n k : Nat) : List Nat := List.range' n k
theorem span_mem (n k m : Nat) : m ∈ span n k ↔ n ≤ m ∧ m < n + k := by simp [span, List.mem_range'_1]
theorem span_length (n k : Nat) : (span n k).length = k := by simp [span]
theorem span_up (n k : Nat) : (span n k).Pairwise (· < ·) := by
  unfold span
  exact List.pairwise_lt_range' ..
theorem span_good (n k : Nat) (h : n + k ≤ 1024) : Good (span n k) := ⟨span_up n k, fun m hm => by have := (span_mem n k m).1 hm; omega⟩
theorem ins_last : ∀ (L : List Nat) (n : Nat), (∀ m ∈ L, m < n) → ins L n = L ++ [n]
  | [], _, _ => rfl
  | k :: r, n, h => by
    have h1 := h k (by simp)
    rw [ins, if_neg (by omega), ins_last r n (fun m hm => h m (by simp [hm]))]
    rfl
theorem span_ins (n k : Nat) : ins (span n k) (n + k) = span n (k + 1) := by
  rw [ins_last _ _ (fun m hm => ((span_mem n k m).1 hm).2)]
  simp [span, List.range'_concat]
def newB (n m : Int) : Bool := numB n && (decide (0 ≤ m) && decide (m ≤ 1024 - n))
theorem build_set : (Tryd.prog.built 109 [(1, .bool true)]) = some (setV [] true) := by kernel_rfl
theorem wpList_build_set {ops : Array Oper} {rest : List Oper} {op : Oper} {a : Act} {w : World} {Q : Exit → Act → World → Prop} (hgd : op.guard = none) (ho : op.op = .build 109 #[(1, .const (.bool true))])
    (h : wpList Tryd.prog ops Q rest (a.put op.dst (.agg (setV [] true))) w) : wpList Tryd.prog ops Q (op :: rest) a w := by
  have hb := build_set
  have e : (Array.map (fun (p : Nat × Operand) => (p.1, a.eval p.2)) #[(1, .const (.bool true))]).toList = [(1, .bool true)] := by simp [go_sem]
  refine wpList_build hgd 109 _ ho (by rw [e, hb]; rfl) ?_
  rw [e, hb]
  exact h
theorem newset_bad (n m : Int) (w : World) (hn : -9223372036854775808 ≤ n ∧ n ≤ 9223372036854775807) (hm : -9223372036854775808 ≤ m ∧ m ≤ 9223372036854775807) (h : newB n m = false) : Calls Tryd.prog 51 #[.int .i64 n, .int .i64 m] w fun e w' => e = .returned (.tuple #[.pointer none, .int .i64 2]) ∧ w = w' := by
  cases hb : numB n with
  | false =>
    have N := Lib.hid hb
    clear hb h
    go_enter Tryd.func51, Tryd.ntmps51
    go_wp2_with (go_at_call 60; refine (isNumber_is n false N.out _).mono ?_; rintro e w' ⟨rfl, rfl⟩)
    go_ret2
    exact ⟨rfl, rfl⟩
  | true =>
    have N := Lib.hid hb
    have hr := (numB_iff n).1 hb
    have h2 : m < 0 ∨ (0 ≤ m ∧ 1024 - n < m) := by
      rw [newB, hb, Bool.true_and, ← Bool.not_eq_true, Bool.and_eq_true, decide_eq_true_eq, decide_eq_true_eq] at h
      omega
    clear hb h
    rcases h2 with h2 | ⟨h2, h3⟩
    · have d1 : decide (m < 0) = true := decide_eq_true h2
      go_enter Tryd.func51, Tryd.ntmps51
      go_wp2_with (go_at_call 60; refine (isNumber_is n true N.out _).mono ?_; rintro e w' ⟨rfl, rfl⟩)
      go_ret2
      exact ⟨rfl, rfl⟩
    · have d1 : decide (m < 0) = false := decide_eq_false (by omega)
      have d2 : decide (1024 - n < m) = true := decide_eq_true h3
      go_enter Tryd.func51, Tryd.ntmps51
      go_wp2_with (go_at_call 60; refine (isNumber_is n true N.out _).mono ?_; rintro e w' ⟨rfl, rfl⟩)
      go_ret2
      exact ⟨rfl, rfl⟩
theorem put_next (b n k : Nat) (w : World) (h : SetAt w b (span n k)) (hk : n + k < 1024) : Calls Tryd.prog 45 #[.pointer (some ⟨b, 0, none⟩), .int .i64 ((n : Int) + (k : Int))] w fun e w' => e = .returned (.int .i64 0) ∧ Turn w w' b (span n (k + 1)) := by
  have := put_any b (span n k) ((n : Int) + (k : Int)) w h
  have h1 : numB ((n : Int) + (k : Int)) = true := (numB_iff _).2 (by omega)
  have h2 : ((n : Int) + (k : Int)).toNat = n + k := by omega
  have h3 : ¬ n + k ∈ span n k := by rw [span_mem]; omega
  rwa [show putE (span n k) ((n : Int) + (k : Int)) = 0 by simp [putE, h1, h2, h3], show putL (span n k) ((n : Int) + (k : Int)) = span n (k + 1) by simp [putL, h1, h2, h3, span_ins]] at this
def NewSet (w : World) (L : List Nat) (e : Ending) (w' : World) : Prop := ∃ b, e = .returned (.tuple #[.pointer (some ⟨b, 0, none⟩), .int .i64 0]) ∧ SetAt w' b L ∧ w.heap.size ≤ b ∧ Below w.heap.size w w'
set_option maxHeartbeats 1000000 in
theorem new_set (n m : Nat) (w : World) (hn : n < 1024) (h : n + m ≤ 1024) : Calls Tryd.prog 51 #[.int .i64 n, .int .i64 m] w (NewSet w (span n m)) := by
  have N : Hid (numB (n : Int) = true) := Lib.hid ((numB_iff _).2 (by omega))
  have d1 : decide ((m : Int) < 0) = false := decide_eq_false (by omega)
  have d2 : decide (1024 - (n : Int) < (m : Int)) = false := decide_eq_false (by omega)
  go_enter Tryd.func51, Tryd.ntmps51
  go_wp2_with (first
    | (go_at_call 60; refine (isNumber_is n true N.out _).mono ?_; rintro e w' ⟨rfl, rfl⟩)
    | (refine wpList_build_set rfl rfl ?_))
  obtain ⟨w1, hw1⟩ : ∃ w1, w1 = w.alloc (.cells (setV [] true) 109) := ⟨_, rfl⟩
  have S1 : Hid (SetAt w1 w.heap.size (span n 0)) := Lib.hid ⟨Good.nil, by rw [hw1]; exact heap_alloc_new w _⟩
  have B1 : Hid (Below w.heap.size w w1) := Lib.hid (by rw [hw1]; exact (Below.refl _ _).alloc (Nat.le_refl _) _)
  rw [← hw1]
  clear hw1
  go_loopw [24] (fun i wr => ∃ k : Nat, i = .int .i64 (k : Int) ∧ k ≤ m ∧ SetAt wr w.heap.size (span n k) ∧ Below w.heap.size w wr) (fun i _ => m - (intOf i).toNat)
  case atStart => exact ⟨0, rfl, Nat.zero_le _, S1.out, B1.out⟩
  case round =>
    obtain ⟨k, rfl, hk, hs, hb⟩ := hrel
    have S := Lib.hid hs
    have B := Lib.hid hb
    clear hs hb
    by_cases hlt : k < m
    · have P := Lib.hid (put_next w.heap.size n k wr S.out (by omega))
      go_wp2_with (go_at_call 45; refine P.out.mono ?_; rintro e w2 ⟨rfl, ht⟩; have T := Lib.hid ht; clear ht)
      go_roundw
      case rel => exact ⟨k + 1, by go_num, by omega, T.out.st, Turn.below B.out T.out B.out.size (Nat.le_refl _)⟩
      case measure => simp [intOf]; omega
    · obtain rfl : k = m := by omega
      go_wp2
      go_ret2
      exact ⟨_, rfl, S.out, Nat.le_refl _, B.out⟩
end Go.Proofs.YtiohnhgoddfebaaDoor
