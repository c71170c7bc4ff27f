/- The contracts of the document's own answers for layer 3: At, Look. Conditions: its words lie in a block. -/
import Derived.Test.YthkfffficobbjaaDoorK7
namespace Go.Proofs.YthkfffficobbjaaDoor
open Go.RowKit
set_option maxRecDepth 100000

set_option maxHeartbeats 1000000 in
theorem rat_range (rb n : Nat) (root va : Int) (wr : Bool) (w : World) (h : 32768 ≤ va) :
    Calls Tryd.prog 13 #[refV rb n, .int .i64 root, .int .u32 va, .bool wr] w fun e w' => e = .returned (.tuple #[.int .i64 0, .int .i64 0, .int .u8 1]) ∧ Below w.heap.size w w' := by
  go_enter Tryd.func13, Tryd.ntmps13
  go_wp2
  exact bodyPost_ret (v := .tuple #[.int .i64 0, .int .i64 0, .int .u8 1]) (by simp [results, Tryd.results13, go_sem]) rfl ⟨rfl, (Below.refl _ _).alloc (Nat.le_refl _) _⟩
set_option maxHeartbeats 2000000 in
theorem rat_in (rb n : Nat) (root va : Int) (wr : Bool) (p x c : Bool) (g f a b k : Int) (w : World) (h0 : 0 ≤ va) (h1 : va < 32768)
    (hs : ∀ W, Below w.heap.size w W → Calls Tryd.prog 30 #[refV rb n, .int .i64 root, .int .i64 (va / 32)] W fun e w' => e = .returned (.tuple #[ent p x c g, .int .u8 f]) ∧ Below W.heap.size W w')
    (hcase : ((f != 0) = true ∧ (a, b, k) = (0, 0, f)) ∨ (f = 0 ∧ wr = true ∧ c = true ∧ (a, b, k) = (0, 0, 5)) ∨ (f = 0 ∧ wr = true ∧ c = false ∧ x = false ∧ (a, b, k) = (0, 0, 4)) ∨ (f = 0 ∧ wr = true ∧ c = false ∧ x = true ∧ (a, b, k) = (g, va % 32, 0)) ∨ (f = 0 ∧ wr = false ∧ (a, b, k) = (g, va % 32, 0))) :
    Calls Tryd.prog 13 #[refV rb n, .int .i64 root, .int .u32 va, .bool wr] w fun e w' => e = .returned (.tuple #[.int .i64 a, .int .i64 b, .int .u8 k]) ∧ Below w.heap.size w w' := by
  have HS := Lib.hid hs
  clear hs
  simp only [Prod.mk.injEq] at hcase
  rcases hcase with ⟨hf, rfl, rfl, rfl⟩ | ⟨rfl, rfl, rfl, rfl, rfl, rfl⟩ | ⟨rfl, rfl, rfl, rfl, rfl, rfl, rfl⟩ | ⟨rfl, rfl, rfl, rfl, rfl, rfl, rfl⟩ | ⟨rfl, rfl, rfl, rfl, rfl⟩
  all_goals
    go_enter Tryd.func13, Tryd.ntmps13
    go_wp2_with fail
    refine (HS.out _ ((Below.refl _ _).alloc (Nat.le_refl _) _)).mono ?_
    rintro e w1 ⟨rfl, hb⟩
    have B1 := Lib.hid (((Below.refl _ _).alloc (Nat.le_refl _) (.cells #[.slice (some ⟨rb, 0, none⟩) (n * 32) (n * 32)] 30)).trans (hb.mono (by simp)))
    clear hb
    go_wp2
    exact bodyPost_ret (v := .tuple #[.int .i64 _, .int .i64 _, .int .u8 _]) (by simp [results, Tryd.results13, go_sem]; done) rfl ⟨rfl, below_allocs B1.out _⟩
set_option maxHeartbeats 1000000 in
theorem rat_any (rp rb n : Nat) (L : List Int) (root va : Int) (wr : Bool) (w : World) (hW : Words L) (hr : RefSt w rp rb n L) (h0 : 0 ≤ va) :
    Calls Tryd.prog 13 #[refV rb n, .int .i64 root, .int .u32 va, .bool wr] w fun e w' => e = .returned (.tuple #[.int .i64 (atE n L root va wr).1, .int .i64 (atE n L root va wr).2.1, .int .u8 (atE n L root va wr).2.2]) ∧ Below w.heap.size w w' := by
  unfold atE
  by_cases h1 : 32768 ≤ va
  · rw [if_pos h1]; exact rat_range rb n root va wr w h1
  rw [if_neg h1]
  have hs : ∀ W, Below w.heap.size w W → _ := fun W hb => rwalk_any rp rb n L root (va / 32) W hW (hr.below hb) (by omega) (by omega)
  generalize pageE n L root (va / 32) = r at hs ⊢
  obtain ⟨⟨p, x, c, g⟩, f⟩ := r
  simp only at hs ⊢
  have h1' : va < 32768 := by omega
  by_cases hf : f ≠ 0
  · rw [if_pos hf]
    exact rat_in rb n root va wr p x c g f _ _ _ w h0 h1' hs (Or.inl ⟨by simpa using hf, rfl⟩)
  rw [if_neg hf]
  have hf' : f = 0 := by simpa using hf
  cases wr
  · exact rat_in rb n root va _ p x c g f _ _ _ w h0 h1' hs (Or.inr (Or.inr (Or.inr (Or.inr ⟨hf', rfl, rfl⟩))))
  · cases c
    · cases x
      · exact rat_in rb n root va _ p _ _ g f _ _ _ w h0 h1' hs (Or.inr (Or.inr (Or.inl ⟨hf', rfl, rfl, rfl, rfl⟩)))
      · exact rat_in rb n root va _ p _ _ g f _ _ _ w h0 h1' hs (Or.inr (Or.inr (Or.inr (Or.inl ⟨hf', rfl, rfl, rfl, rfl⟩))))
    · exact rat_in rb n root va _ p x _ g f _ _ _ w h0 h1' hs (Or.inr (Or.inl ⟨hf', rfl, rfl, rfl⟩))

set_option maxHeartbeats 1000000 in
theorem rlook_arg (rb n : Nat) (root pg : Int) (w : World) (h : pg < 0 ∨ 1023 < pg) :
    Calls Tryd.prog 15 #[refV rb n, .int .i64 root, .int .i64 pg] w fun e w' => e = .returned (.tuple #[ent false false false 0, .int .i64 2]) ∧ Below w.heap.size w w' := by
  rcases h with h | h
  all_goals
    go_enter Tryd.func15, Tryd.ntmps15
    go_wp2
    exact bodyPost_ret (v := .tuple #[ent false false false 0, .int .i64 2]) (by simp [results, Tryd.results15, go_sem]) rfl ⟨rfl, below_two _ _ _⟩
set_option maxHeartbeats 2000000 in
theorem rlook_in (rb n : Nat) (root pg : Int) (p x c : Bool) (g f : Int) (p' x' c' : Bool) (g' k : Int) (w : World) (h0 : 0 ≤ pg) (h1 : pg < 1024)
    (hs : ∀ W, Below w.heap.size w W → Calls Tryd.prog 30 #[refV rb n, .int .i64 root, .int .i64 pg] W fun e w' => e = .returned (.tuple #[ent p x c g, .int .u8 f]) ∧ Below W.heap.size W w')
    (hcase : (f = 6 ∧ (p', x', c', g', k) = (false, false, false, 0, 6)) ∨ (f = 2 ∧ (p', x', c', g', k) = (false, false, false, 0, 4)) ∨ (((f == 6) = false ∧ (f == 2) = false) ∧ (p', x', c', g', k) = (p, x, c, g, 0))) :
    Calls Tryd.prog 15 #[refV rb n, .int .i64 root, .int .i64 pg] w fun e w' => e = .returned (.tuple #[ent p' x' c' g', .int .i64 k]) ∧ Below w.heap.size w w' := by
  have HS := Lib.hid hs
  have hd1 : decide (pg < 0) = false := decide_eq_false (by omega)
  have hd2 : decide ((1023 : Int) < pg) = false := decide_eq_false (by omega)
  clear hs
  simp only [Prod.mk.injEq] at hcase
  rcases hcase with ⟨rfl, rfl, rfl, rfl, rfl, rfl⟩ | ⟨rfl, rfl, rfl, rfl, rfl, rfl⟩ | ⟨⟨hf1, hf2⟩, rfl, rfl, rfl, rfl, rfl⟩
  all_goals
    go_enter Tryd.func15, Tryd.ntmps15
    go_wp2_with fail
    obtain ⟨w0, hw0⟩ : ∃ w0, w0 = (w.alloc (.cells #[.slice (some ⟨rb, 0, none⟩) (n * 32) (n * 32)] 30)).alloc (.cells #[.bool false, .bool false, .bool false, .int .i64 0] 39) := ⟨_, rfl⟩
    have S0 := Lib.hid (show RunSt w w0 rb n by rw [hw0]; exact RunSt.start w rb n)
    rw [← hw0]
    clear hw0
    refine (HS.out _ S0.out.below).mono ?_
    rintro e w1 ⟨rfl, hb⟩
    have S1 := Lib.hid (S0.out.step hb)
    clear hb
    obtain ⟨r0, r1, r2, r3, rf⟩ := box4 S1.out.res
    have f0 := rf 0
    have f1 := rf 1
    have f2 := rf 2
    have f3 := rf 3
    clear rf
    have hlt2 : w.heap.size + 1 < w1.heap.size := lt_of_block S1.out.res
    go_wp2
    exact bodyPost_ret (v := .tuple #[ent _ _ _ _, .int .i64 _]) (by simp [results, Tryd.results15, go_sem, r0, r1, r2, r3, hlt2]; done) rfl ⟨rfl, below_allocs (below_res S1.out.below _ _ _ _) _⟩
set_option maxHeartbeats 1000000 in
theorem rlook_any (rp rb n : Nat) (L : List Int) (root pg : Int) (w : World) (hW : Words L) (hr : RefSt w rp rb n L) :
    Calls Tryd.prog 15 #[refV rb n, .int .i64 root, .int .i64 pg] w fun e w' => e = .returned (.tuple #[entV (lookE n L root pg).1, .int .i64 (lookE n L root pg).2]) ∧ Below w.heap.size w w' := by
  unfold lookE
  by_cases h : pg < 0 ∨ 1023 < pg
  · rw [if_pos h]; exact rlook_arg rb n root pg w h
  rw [if_neg h]
  have h0 : 0 ≤ pg := by omega
  have h1 : pg < 1024 := by omega
  have hs : ∀ W, Below w.heap.size w W → _ := fun W hb => rwalk_any rp rb n L root pg W hW (hr.below hb) h0 h1
  generalize pageE n L root pg = r at hs ⊢
  obtain ⟨⟨p, x, c, g⟩, f⟩ := r
  simp only at hs ⊢
  by_cases h6 : f = 6
  · rw [if_pos h6]
    exact rlook_in rb n root pg p x c g f false false false 0 6 w h0 h1 hs (Or.inl ⟨h6, rfl⟩)
  rw [if_neg h6]
  by_cases h2 : f = 2
  · rw [if_pos h2]
    exact rlook_in rb n root pg p x c g f false false false 0 4 w h0 h1 hs (Or.inr (Or.inl ⟨h2, rfl⟩))
  rw [if_neg h2]
  exact rlook_in rb n root pg p x c g f p x c g 0 w h0 h1 hs (Or.inr (Or.inr ⟨⟨by simpa using h6, by simpa using h2⟩, rfl⟩))
end Go.Proofs.YthkfffficobbjaaDoor
