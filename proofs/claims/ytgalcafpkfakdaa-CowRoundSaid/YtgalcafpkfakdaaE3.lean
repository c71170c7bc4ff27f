/- The contracts of the document's own Fork, Write, Set of layer 15: what they answer at any entry. No condition. -/
import Derived.Test.YtgalcafpkfakdaaE2
namespace Go.Proofs.Ytgalcafpkfakdaa
open Go.RowKit
set_option maxRecDepth 100000

set_option maxHeartbeats 1000000 in
theorem fine_no (p w c : Bool) (f n : Int) (W : World) (h : pgE p w c f = false) : Calls Try.prog 18 #[ent p w c f, .int .i64 n] W fun e w' => e = .returned (.bool false) ∧ Below W.heap.size W w' := by
  unfold pgE at h
  cases hok : okE p w c f
  · have H := Lib.hid hok
    clear hok h
    go_enter Try.func18, Try.ntmps18
    go_wp2_with fail
    refine (rcheck_no p w c f _ H.out).mono ?_
    rintro e w1 ⟨rfl, hb⟩
    obtain ⟨-, hB⟩ := box_ent hb
    have HB := Lib.hid hB
    clear hb hB
    go_wp2
    go_ret
    exact ⟨rfl, HB.out⟩
  · obtain rfl : p = false := by rw [hok] at h; simpa using h
    have H := Lib.hid hok
    clear hok h
    go_enter Try.func18, Try.ntmps18
    go_wp2_with fail
    refine (rcheck_yes false w c f _ H.out).mono ?_
    rintro e w1 ⟨rfl, hb⟩
    obtain ⟨⟨e0, e1, e2, e3⟩, hB⟩ := box_ent hb
    have HB := Lib.hid hB
    clear hb hB
    go_wp2
    go_ret
    exact ⟨rfl, HB.out⟩
set_option maxHeartbeats 1000000 in
theorem fine_yes (w c : Bool) (f n : Int) (b : Bool) (W : World) (h : pgE true w c f = true) (hn : decide (1 ≤ n) = b) : Calls Try.prog 18 #[ent true w c f, .int .i64 n] W fun e w' => e = .returned (.bool b) ∧ Below W.heap.size W w' := by
  have hok : okE true w c f = true := by unfold pgE at h; simpa using h
  have H := Lib.hid hok
  clear hok h
  subst hn
  go_enter Try.func18, Try.ntmps18
  go_wp2_with fail
  refine (rcheck_yes true w c f _ H.out).mono ?_
  rintro e w1 ⟨rfl, hb⟩
  obtain ⟨⟨e0, e1, e2, e3⟩, hB⟩ := box_ent hb
  have HB := Lib.hid hB
  clear hb hB
  go_wp2
  go_ret
  exact ⟨rfl, HB.out⟩
set_option maxHeartbeats 1000000 in
theorem rfork_no (p w c : Bool) (f : Int) (W : World) (h : pgE p w c f = false) : Calls Try.prog 9 #[ent p w c f] W fun e w' => e = .returned (.tuple #[ent false false false 0, .int .i64 2]) ∧ Below W.heap.size W w' := by
  have H := Lib.hid h
  clear h
  go_enter Try.func9, Try.ntmps9
  go_wp2_with fail
  refine (fine_no p w c f 1 _ H.out).mono ?_
  rintro e w1 ⟨rfl, hb⟩
  obtain ⟨-, hr, hB⟩ := box_res hb
  have HB := Lib.hid hB
  obtain ⟨⟨r0, r1, r2, r3⟩, f0, f1, f2, f3⟩ := hr
  clear hb hB
  go_wp2
  exact bodyPost_ret (v := .tuple #[ent false false false 0, .int .i64 2]) (by simp [results, Try.results9, go_sem, r0, r1, r2, r3]) rfl ⟨rfl, below_ent HB.out (by omega) _ _ _ _⟩
set_option maxHeartbeats 1000000 in
theorem rfork_read (f : Int) (W : World) (h : pgE true false false f = true) : Calls Try.prog 9 #[ent true false false f] W fun e w' => e = .returned (.tuple #[ent true false false f, .int .i64 0]) ∧ Below W.heap.size W w' := by
  have H := Lib.hid h
  clear h
  go_enter Try.func9, Try.ntmps9
  go_wp2_with fail
  refine (fine_yes false false f 1 true _ H.out (by decide)).mono ?_
  rintro e w1 ⟨rfl, hb⟩
  obtain ⟨⟨e0, e1, e2, e3⟩, hr, hB⟩ := box_res hb
  have HB := Lib.hid hB
  obtain ⟨⟨r0, r1, r2, r3⟩, f0, f1, f2, f3⟩ := hr
  clear hb hB
  go_wp2
  exact bodyPost_ret (v := .tuple #[ent true false false f, .int .i64 0]) (by simp [results, Try.results9, go_sem, r0, r1, r2, r3]) rfl ⟨rfl, below_ent HB.out (by omega) _ _ _ _⟩
set_option maxHeartbeats 1000000 in
theorem rfork_write (f : Int) (W : World) (h : pgE true true false f = true) : Calls Try.prog 9 #[ent true true false f] W fun e w' => e = .returned (.tuple #[ent true false true f, .int .i64 0]) ∧ Below W.heap.size W w' := by
  have H := Lib.hid h
  clear h
  go_enter Try.func9, Try.ntmps9
  go_wp2_with fail
  refine (fine_yes true false f 1 true _ H.out (by decide)).mono ?_
  rintro e w1 ⟨rfl, hb⟩
  obtain ⟨⟨e0, e1, e2, e3⟩, hr, hB⟩ := box_res hb
  have HB := Lib.hid hB
  obtain ⟨⟨r0, r1, r2, r3⟩, f0, f1, f2, f3⟩ := hr
  have g1 : w1.frozen? ⟨W.heap.size, 1, none⟩ = false := frozen_box hb 1
  have g2 : w1.frozen? ⟨W.heap.size, 2, none⟩ = false := frozen_box hb 2
  clear hb hB
  go_wp2
  exact bodyPost_ret (v := .tuple #[ent true false true f, .int .i64 0]) (by simp [results, Try.results9, go_sem, r0, r1, r2, r3]) rfl ⟨rfl, below_ent ((HB.out.setCell (p := ⟨W.heap.size, 1, none⟩) (Nat.le_refl _) _).setCell (p := ⟨W.heap.size, 2, none⟩) (Nat.le_refl _) _) (by omega) _ _ _ _⟩
set_option maxHeartbeats 1000000 in
theorem rfork_copy (f : Int) (W : World) (h : pgE true false true f = true) : Calls Try.prog 9 #[ent true false true f] W fun e w' => e = .returned (.tuple #[ent true false true f, .int .i64 0]) ∧ Below W.heap.size W w' := by
  have H := Lib.hid h
  clear h
  go_enter Try.func9, Try.ntmps9
  go_wp2_with fail
  refine (fine_yes false true f 1 true _ H.out (by decide)).mono ?_
  rintro e w1 ⟨rfl, hb⟩
  obtain ⟨⟨e0, e1, e2, e3⟩, hr, hB⟩ := box_res hb
  have HB := Lib.hid hB
  obtain ⟨⟨r0, r1, r2, r3⟩, f0, f1, f2, f3⟩ := hr
  clear hb hB
  go_wp2
  exact bodyPost_ret (v := .tuple #[ent true false true f, .int .i64 0]) (by simp [results, Try.results9, go_sem, r0, r1, r2, r3]) rfl ⟨rfl, below_ent HB.out (by omega) _ _ _ _⟩
set_option maxHeartbeats 1000000 in
theorem rwrite_no (p w c : Bool) (f n : Int) (W : World) (h : pgE p w c f = false) : Calls Try.prog 12 #[ent p w c f, .int .i64 n] W fun e w' => e = .returned (.tuple #[.int .i64 0, .int .i64 2]) ∧ Below W.heap.size W w' := by
  have H := Lib.hid h
  clear h
  go_enter Try.func12, Try.ntmps12
  go_wp2_with fail
  refine (fine_no p w c f n _ H.out).mono ?_
  rintro e w1 ⟨rfl, hb⟩
  obtain ⟨-, hB⟩ := box_ent hb
  have HB := Lib.hid hB
  clear hb hB
  go_wp2
  go_ret2
  exact ⟨rfl, HB.out⟩
set_option maxHeartbeats 1000000 in
theorem rwrite_few (w c : Bool) (f n : Int) (W : World) (h : pgE true w c f = true) (hn : n < 1) : Calls Try.prog 12 #[ent true w c f, .int .i64 n] W fun e w' => e = .returned (.tuple #[.int .i64 0, .int .i64 2]) ∧ Below W.heap.size W w' := by
  have H := Lib.hid h
  clear h
  have hd : decide (1 ≤ n) = false := by simp; omega
  have HD := Lib.hid hd
  clear hd
  go_enter Try.func12, Try.ntmps12
  go_wp2_with fail
  refine (fine_yes w c f n false _ H.out HD.out).mono ?_
  rintro e w1 ⟨rfl, hb⟩
  obtain ⟨-, hB⟩ := box_ent hb
  have HB := Lib.hid hB
  clear hb hB
  go_wp2
  go_ret2
  exact ⟨rfl, HB.out⟩
set_option maxHeartbeats 1000000 in
theorem rwrite_read (f : Int) (n : Int) (W : World) (h : pgE true false false f = true) (hn : 1 ≤ n) : Calls Try.prog 12 #[ent true false false f, .int .i64 n] W fun e w' => e = .returned (.tuple #[.int .i64 0, .int .i64 8]) ∧ Below W.heap.size W w' := by
  have H := Lib.hid h
  clear h
  have HD : Hid (decide (1 ≤ n) = true) := Lib.hid (by simp; omega)
  go_enter Try.func12, Try.ntmps12
  go_wp2_with fail
  refine (fine_yes false false f n true _ H.out HD.out).mono ?_
  rintro e w1 ⟨rfl, hb⟩
  obtain ⟨⟨e0, e1, e2, e3⟩, hB⟩ := box_ent hb
  have HB := Lib.hid hB
  clear hb hB
  go_wp2
  go_ret2
  exact ⟨rfl, HB.out⟩
set_option maxHeartbeats 1000000 in
theorem rwrite_write (f : Int) (n : Int) (W : World) (h : pgE true true false f = true) (hn : 1 ≤ n) : Calls Try.prog 12 #[ent true true false f, .int .i64 n] W fun e w' => e = .returned (.tuple #[.int .i64 1, .int .i64 0]) ∧ Below W.heap.size W w' := by
  have H := Lib.hid h
  clear h
  have HD : Hid (decide (1 ≤ n) = true) := Lib.hid (by simp; omega)
  go_enter Try.func12, Try.ntmps12
  go_wp2_with fail
  refine (fine_yes true false f n true _ H.out HD.out).mono ?_
  rintro e w1 ⟨rfl, hb⟩
  obtain ⟨⟨e0, e1, e2, e3⟩, hB⟩ := box_ent hb
  have HB := Lib.hid hB
  clear hb hB
  go_wp2
  go_ret2
  exact ⟨rfl, HB.out⟩
set_option maxHeartbeats 1000000 in
theorem rwrite_own (f : Int) (W : World) (h : pgE true false true f = true) : Calls Try.prog 12 #[ent true false true f, .int .i64 1] W fun e w' => e = .returned (.tuple #[.int .i64 2, .int .i64 0]) ∧ Below W.heap.size W w' := by
  have H := Lib.hid h
  clear h
  go_enter Try.func12, Try.ntmps12
  go_wp2_with fail
  refine (fine_yes false true f 1 true _ H.out (by decide)).mono ?_
  rintro e w1 ⟨rfl, hb⟩
  obtain ⟨⟨e0, e1, e2, e3⟩, hB⟩ := box_ent hb
  have HB := Lib.hid hB
  clear hb hB
  go_wp2
  go_ret2
  exact ⟨rfl, HB.out⟩
set_option maxHeartbeats 1000000 in
theorem rwrite_many (f : Int) (n : Int) (W : World) (h : pgE true false true f = true) (hn : 1 < n) : Calls Try.prog 12 #[ent true false true f, .int .i64 n] W fun e w' => e = .returned (.tuple #[.int .i64 3, .int .i64 0]) ∧ Below W.heap.size W w' := by
  have H := Lib.hid h
  clear h
  have HD : Hid (decide (1 ≤ n) = true) := Lib.hid (by simp; omega)
  have hn3 : (n == 1) = false := by simp; omega
  go_enter Try.func12, Try.ntmps12
  go_wp2_with fail
  refine (fine_yes false true f n true _ H.out HD.out).mono ?_
  rintro e w1 ⟨rfl, hb⟩
  obtain ⟨⟨e0, e1, e2, e3⟩, hB⟩ := box_ent hb
  have HB := Lib.hid hB
  clear hb hB
  go_wp2
  go_ret2
  exact ⟨rfl, HB.out⟩
set_option maxHeartbeats 1000000 in
theorem rset_no (p w c : Bool) (f n : Int) (x : Bool) (W : World) (h : pgE p w c f = false) : Calls Try.prog 14 #[ent p w c f, .int .i64 n, .bool x] W fun e w' => e = .returned (.tuple #[ent false false false 0, .int .i64 2]) ∧ Below W.heap.size W w' := by
  have H := Lib.hid h
  clear h
  go_enter Try.func14, Try.ntmps14
  go_wp2_with fail
  refine (fine_no p w c f n _ H.out).mono ?_
  rintro e w1 ⟨rfl, hb⟩
  obtain ⟨-, hr, hB⟩ := box_res hb
  have HB := Lib.hid hB
  obtain ⟨⟨r0, r1, r2, r3⟩, f0, f1, f2, f3⟩ := hr
  clear hb hB
  go_wp2
  exact bodyPost_ret (v := .tuple #[ent false false false 0, .int .i64 2]) (by simp [results, Try.results14, go_sem, r0, r1, r2, r3]) rfl ⟨rfl, below_ent HB.out (by omega) _ _ _ _⟩
set_option maxHeartbeats 1000000 in
theorem rset_few (w c : Bool) (f n : Int) (x : Bool) (W : World) (h : pgE true w c f = true) (hn : n < 1) : Calls Try.prog 14 #[ent true w c f, .int .i64 n, .bool x] W fun e w' => e = .returned (.tuple #[ent false false false 0, .int .i64 2]) ∧ Below W.heap.size W w' := by
  have H := Lib.hid h
  clear h
  have HD : Hid (decide (1 ≤ n) = false) := Lib.hid (by simp; omega)
  go_enter Try.func14, Try.ntmps14
  go_wp2_with fail
  refine (fine_yes w c f n false _ H.out HD.out).mono ?_
  rintro e w1 ⟨rfl, hb⟩
  obtain ⟨-, hr, hB⟩ := box_res hb
  have HB := Lib.hid hB
  obtain ⟨⟨r0, r1, r2, r3⟩, f0, f1, f2, f3⟩ := hr
  clear hb hB
  go_wp2
  exact bodyPost_ret (v := .tuple #[ent false false false 0, .int .i64 2]) (by simp [results, Try.results14, go_sem, r0, r1, r2, r3]) rfl ⟨rfl, below_ent HB.out (by omega) _ _ _ _⟩
set_option maxHeartbeats 1000000 in
theorem rset_read (w c : Bool) (f : Int) (n : Int) (W : World) (h : pgE true w c f = true) (hn : 1 ≤ n) : Calls Try.prog 14 #[ent true w c f, .int .i64 n, .bool false] W fun e w' => e = .returned (.tuple #[ent true false false f, .int .i64 0]) ∧ Below W.heap.size W w' := by
  have H := Lib.hid h
  clear h
  have HD : Hid (decide (1 ≤ n) = true) := Lib.hid (by simp; omega)
  go_enter Try.func14, Try.ntmps14
  go_wp2_with fail
  refine (fine_yes w c f n true _ H.out HD.out).mono ?_
  rintro e w1 ⟨rfl, hb⟩
  obtain ⟨⟨e0, e1, e2, e3⟩, hr, hB⟩ := box_res hb
  have HB := Lib.hid hB
  obtain ⟨⟨r0, r1, r2, r3⟩, f0, f1, f2, f3⟩ := hr.below ((Below.refl _ _).alloc (Nat.le_refl _) (.cells #[.bool true, .bool false, .bool false, .int .i64 f] 23))
  clear hb hr hB
  go_wp2
  exact bodyPost_ret (v := .tuple #[ent true false false f, .int .i64 0]) (by simp [results, Try.results14, go_sem, r0, r1, r2, r3]) rfl ⟨rfl, below_ent (HB.out.alloc HB.out.size _) (by omega) _ _ _ _⟩
set_option maxHeartbeats 1000000 in
theorem rset_write (w c : Bool) (f : Int) (W : World) (h : pgE true w c f = true) : Calls Try.prog 14 #[ent true w c f, .int .i64 1, .bool true] W fun e w' => e = .returned (.tuple #[ent true true false f, .int .i64 0]) ∧ Below W.heap.size W w' := by
  have H := Lib.hid h
  clear h
  go_enter Try.func14, Try.ntmps14
  go_wp2_with fail
  refine (fine_yes w c f 1 true _ H.out (by decide)).mono ?_
  rintro e w1 ⟨rfl, hb⟩
  obtain ⟨⟨e0, e1, e2, e3⟩, hr, hB⟩ := box_res hb
  have HB := Lib.hid hB
  obtain ⟨⟨r0, r1, r2, r3⟩, f0, f1, f2, f3⟩ := hr.below ((Below.refl _ _).alloc (Nat.le_refl _) (.cells #[.bool true, .bool true, .bool false, .int .i64 f] 23))
  clear hb hr hB
  go_wp2
  exact bodyPost_ret (v := .tuple #[ent true true false f, .int .i64 0]) (by simp [results, Try.results14, go_sem, r0, r1, r2, r3]) rfl ⟨rfl, below_ent (HB.out.alloc HB.out.size _) (by omega) _ _ _ _⟩
set_option maxHeartbeats 1000000 in
theorem rset_copy (w c : Bool) (f : Int) (n : Int) (W : World) (h : pgE true w c f = true) (hn : 1 < n) : Calls Try.prog 14 #[ent true w c f, .int .i64 n, .bool true] W fun e w' => e = .returned (.tuple #[ent true false true f, .int .i64 0]) ∧ Below W.heap.size W w' := by
  have H := Lib.hid h
  clear h
  have HD : Hid (decide (1 ≤ n) = true) := Lib.hid (by simp; omega)
  have hn3 : (n == 1) = false := by simp; omega
  go_enter Try.func14, Try.ntmps14
  go_wp2_with fail
  refine (fine_yes w c f n true _ H.out HD.out).mono ?_
  rintro e w1 ⟨rfl, hb⟩
  obtain ⟨⟨e0, e1, e2, e3⟩, hr, hB⟩ := box_res hb
  have HB := Lib.hid hB
  obtain ⟨⟨r0, r1, r2, r3⟩, f0, f1, f2, f3⟩ := hr.below ((Below.refl _ _).alloc (Nat.le_refl _) (.cells #[.bool true, .bool false, .bool true, .int .i64 f] 23))
  clear hb hr hB
  go_wp2
  exact bodyPost_ret (v := .tuple #[ent true false true f, .int .i64 0]) (by simp [results, Try.results14, go_sem, r0, r1, r2, r3]) rfl ⟨rfl, below_ent (HB.out.alloc HB.out.size _) (by omega) _ _ _ _⟩
end Go.Proofs.Ytgalcafpkfakdaa
