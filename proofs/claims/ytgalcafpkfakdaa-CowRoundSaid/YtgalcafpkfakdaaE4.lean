/- What the sentinel of layer 15's laws does; the walks of CowFork, CowWrite, CowSet. No condition. -/
import Derived.Test.YtgalcafpkfakdaaE3
namespace Go.Proofs.Ytgalcafpkfakdaa
open Go.RowKit
set_option maxRecDepth 100000

set_option maxHeartbeats 2000000 in
theorem awake15 (W : World) : Calls Try.prog 10 #[] W fun e w' => e = .returned (.bool true) ∧ Below W.heap.size W w' := by
  go_enter Try.func10, Try.ntmps10
  have B0 : Hid (Below W.heap.size W W) := Lib.hid (Below.refl _ _)
  go_wp2_with fail
  refine (fork_write 5 _ (by decide)).mono ?_
  rintro e w1 ⟨rfl, hb⟩
  have B1 : Hid (Below W.heap.size W (w1.alloc (.cells #[.bool true, .bool false, .bool true, .int .i64 5] 23))) := Lib.hid ((below_step B0.out hb B0.out.size).alloc (below_step B0.out hb B0.out.size).size _)
  have Ha1 : Hid (EntAt (w1.alloc (.cells #[.bool true, .bool false, .bool true, .int .i64 5] 23)) w1.heap.size true false true 5) := Lib.hid (EntAt.new ..)
  clear hb
  obtain ⟨a0, a1, a2, a3⟩ := Ha1.out
  go_wp2_with fail
  refine (write_many 5 2 _ (by decide) (by decide)).mono ?_
  rintro e w2 ⟨rfl, hb⟩
  clear a0 a1 a2 a3
  have B2 := Lib.hid (below_step B1.out hb B1.out.size)
  have Ha2 := Lib.hid ((Ha1.out.below hb))
  clear hb
  obtain ⟨a0, a1, a2, a3⟩ := Ha2.out
  go_wp2_with fail
  refine (write_own 5 _ (by decide)).mono ?_
  rintro e w3 ⟨rfl, hb⟩
  clear a0 a1 a2 a3
  have B3 := Lib.hid (below_step B2.out hb B2.out.size)
  have Ha3 := Lib.hid ((Ha2.out.below hb))
  clear hb
  obtain ⟨a0, a1, a2, a3⟩ := Ha3.out
  go_wp2_with fail
  refine (write_read 5 1 _ (by decide) (by decide)).mono ?_
  rintro e w4 ⟨rfl, hb⟩
  clear a0 a1 a2 a3
  have B4 := Lib.hid (below_step B3.out hb B3.out.size)
  have Ha4 := Lib.hid ((Ha3.out.below hb))
  clear hb
  obtain ⟨a0, a1, a2, a3⟩ := Ha4.out
  go_wp2
  go_ret
  exact ⟨rfl, B4.out⟩
set_option maxHeartbeats 2000000 in
theorem cowFork_no (p w c : Bool) (f : Int) (W : World) (h : pgE p w c f = false) : Calls Try.prog 3 #[ent p w c f] W fun e w' => e = .returned (.bool true) ∧ Below W.heap.size W w' := by
  have H := Lib.hid h
  clear h
  go_enter Try.func3, Try.ntmps3
  have B0 : Hid (Below W.heap.size W (W.alloc (.cells #[.bool p, .bool w, .bool c, .int .i64 f] 23))) := Lib.hid ((Below.refl _ _).alloc (Nat.le_refl _) _)
  have Hx0 : Hid (EntAt (W.alloc (.cells #[.bool p, .bool w, .bool c, .int .i64 f] 23)) W.heap.size p w c f) := Lib.hid (EntAt.new ..)
  go_wp2_with fail
  refine (fork_no p w c f _ H.out).mono ?_
  rintro e w1 ⟨rfl, hb⟩
  have B1 : Hid (Below W.heap.size W (w1.alloc (.cells #[.bool false, .bool false, .bool false, .int .i64 0] 23))) := Lib.hid ((below_step B0.out hb B0.out.size).alloc (below_step B0.out hb B0.out.size).size _)
  have Hx1 := Lib.hid ((Hx0.out.below hb).alloc (.cells #[.bool false, .bool false, .bool false, .int .i64 0] 23))
  have Ha1 : Hid (EntAt (w1.alloc (.cells #[.bool false, .bool false, .bool false, .int .i64 0] 23)) w1.heap.size false false false 0) := Lib.hid (EntAt.new ..)
  clear hb
  obtain ⟨x0, x1, x2, x3⟩ := Hx1.out
  obtain ⟨a0, a1, a2, a3⟩ := Ha1.out
  go_wp2_with fail
  refine (rfork_no p w c f _ H.out).mono ?_
  rintro e w2 ⟨rfl, hb⟩
  clear x0 x1 x2 x3 a0 a1 a2 a3
  have B2 : Hid (Below W.heap.size W (w2.alloc (.cells #[.bool false, .bool false, .bool false, .int .i64 0] 23))) := Lib.hid ((below_step B1.out hb B1.out.size).alloc (below_step B1.out hb B1.out.size).size _)
  have Hx2 := Lib.hid ((Hx1.out.below hb).alloc (.cells #[.bool false, .bool false, .bool false, .int .i64 0] 23))
  have Ha2 := Lib.hid ((Ha1.out.below hb).alloc (.cells #[.bool false, .bool false, .bool false, .int .i64 0] 23))
  have Hb2 : Hid (EntAt (w2.alloc (.cells #[.bool false, .bool false, .bool false, .int .i64 0] 23)) w2.heap.size false false false 0) := Lib.hid (EntAt.new ..)
  clear hb
  obtain ⟨x0, x1, x2, x3⟩ := Hx2.out
  obtain ⟨a0, a1, a2, a3⟩ := Ha2.out
  obtain ⟨b0, b1, b2, b3⟩ := Hb2.out
  go_wp2_with fail
  refine (awake15 _).mono ?_
  rintro e w3 ⟨rfl, hb⟩
  clear x0 x1 x2 x3 a0 a1 a2 a3 b0 b1 b2 b3
  have B3 := Lib.hid (below_step B2.out hb B2.out.size)
  have Hx3 := Lib.hid ((Hx2.out.below hb))
  have Ha3 := Lib.hid ((Ha2.out.below hb))
  have Hb3 := Lib.hid ((Hb2.out.below hb))
  clear hb
  obtain ⟨x0, x1, x2, x3⟩ := Hx3.out
  obtain ⟨a0, a1, a2, a3⟩ := Ha3.out
  obtain ⟨b0, b1, b2, b3⟩ := Hb3.out
  go_wp2
  go_ret
  exact ⟨rfl, B3.out⟩
set_option maxHeartbeats 2000000 in
theorem cowFork_read (f : Int) (W : World) (h : pgE true false false f = true) : Calls Try.prog 3 #[ent true false false f] W fun e w' => e = .returned (.bool true) ∧ Below W.heap.size W w' := by
  have H := Lib.hid h
  clear h
  go_enter Try.func3, Try.ntmps3
  have B0 : Hid (Below W.heap.size W (W.alloc (.cells #[.bool true, .bool false, .bool false, .int .i64 f] 23))) := Lib.hid ((Below.refl _ _).alloc (Nat.le_refl _) _)
  have Hx0 : Hid (EntAt (W.alloc (.cells #[.bool true, .bool false, .bool false, .int .i64 f] 23)) W.heap.size true false false f) := Lib.hid (EntAt.new ..)
  go_wp2_with fail
  refine (fork_read f _ H.out).mono ?_
  rintro e w1 ⟨rfl, hb⟩
  have B1 : Hid (Below W.heap.size W (w1.alloc (.cells #[.bool true, .bool false, .bool false, .int .i64 f] 23))) := Lib.hid ((below_step B0.out hb B0.out.size).alloc (below_step B0.out hb B0.out.size).size _)
  have Hx1 := Lib.hid ((Hx0.out.below hb).alloc (.cells #[.bool true, .bool false, .bool false, .int .i64 f] 23))
  have Ha1 : Hid (EntAt (w1.alloc (.cells #[.bool true, .bool false, .bool false, .int .i64 f] 23)) w1.heap.size true false false f) := Lib.hid (EntAt.new ..)
  clear hb
  obtain ⟨x0, x1, x2, x3⟩ := Hx1.out
  obtain ⟨a0, a1, a2, a3⟩ := Ha1.out
  go_wp2_with fail
  refine (rfork_read f _ H.out).mono ?_
  rintro e w2 ⟨rfl, hb⟩
  clear x0 x1 x2 x3 a0 a1 a2 a3
  have B2 : Hid (Below W.heap.size W (w2.alloc (.cells #[.bool true, .bool false, .bool false, .int .i64 f] 23))) := Lib.hid ((below_step B1.out hb B1.out.size).alloc (below_step B1.out hb B1.out.size).size _)
  have Hx2 := Lib.hid ((Hx1.out.below hb).alloc (.cells #[.bool true, .bool false, .bool false, .int .i64 f] 23))
  have Ha2 := Lib.hid ((Ha1.out.below hb).alloc (.cells #[.bool true, .bool false, .bool false, .int .i64 f] 23))
  have Hb2 : Hid (EntAt (w2.alloc (.cells #[.bool true, .bool false, .bool false, .int .i64 f] 23)) w2.heap.size true false false f) := Lib.hid (EntAt.new ..)
  clear hb
  obtain ⟨x0, x1, x2, x3⟩ := Hx2.out
  obtain ⟨a0, a1, a2, a3⟩ := Ha2.out
  obtain ⟨b0, b1, b2, b3⟩ := Hb2.out
  go_wp2_with fail
  refine (awake15 _).mono ?_
  rintro e w3 ⟨rfl, hb⟩
  clear x0 x1 x2 x3 a0 a1 a2 a3 b0 b1 b2 b3
  have B3 := Lib.hid (below_step B2.out hb B2.out.size)
  have Hx3 := Lib.hid ((Hx2.out.below hb))
  have Ha3 := Lib.hid ((Ha2.out.below hb))
  have Hb3 := Lib.hid ((Hb2.out.below hb))
  clear hb
  obtain ⟨x0, x1, x2, x3⟩ := Hx3.out
  obtain ⟨a0, a1, a2, a3⟩ := Ha3.out
  obtain ⟨b0, b1, b2, b3⟩ := Hb3.out
  go_wp2
  go_ret
  exact ⟨rfl, B3.out⟩
set_option maxHeartbeats 2000000 in
theorem cowFork_write (f : Int) (W : World) (h : pgE true true false f = true) : Calls Try.prog 3 #[ent true true false f] W fun e w' => e = .returned (.bool true) ∧ Below W.heap.size W w' := by
  have H := Lib.hid h
  clear h
  go_enter Try.func3, Try.ntmps3
  have B0 : Hid (Below W.heap.size W (W.alloc (.cells #[.bool true, .bool true, .bool false, .int .i64 f] 23))) := Lib.hid ((Below.refl _ _).alloc (Nat.le_refl _) _)
  have Hx0 : Hid (EntAt (W.alloc (.cells #[.bool true, .bool true, .bool false, .int .i64 f] 23)) W.heap.size true true false f) := Lib.hid (EntAt.new ..)
  go_wp2_with fail
  refine (fork_write f _ H.out).mono ?_
  rintro e w1 ⟨rfl, hb⟩
  have B1 : Hid (Below W.heap.size W (w1.alloc (.cells #[.bool true, .bool false, .bool true, .int .i64 f] 23))) := Lib.hid ((below_step B0.out hb B0.out.size).alloc (below_step B0.out hb B0.out.size).size _)
  have Hx1 := Lib.hid ((Hx0.out.below hb).alloc (.cells #[.bool true, .bool false, .bool true, .int .i64 f] 23))
  have Ha1 : Hid (EntAt (w1.alloc (.cells #[.bool true, .bool false, .bool true, .int .i64 f] 23)) w1.heap.size true false true f) := Lib.hid (EntAt.new ..)
  clear hb
  obtain ⟨x0, x1, x2, x3⟩ := Hx1.out
  obtain ⟨a0, a1, a2, a3⟩ := Ha1.out
  go_wp2_with fail
  refine (rfork_write f _ H.out).mono ?_
  rintro e w2 ⟨rfl, hb⟩
  clear x0 x1 x2 x3 a0 a1 a2 a3
  have B2 : Hid (Below W.heap.size W (w2.alloc (.cells #[.bool true, .bool false, .bool true, .int .i64 f] 23))) := Lib.hid ((below_step B1.out hb B1.out.size).alloc (below_step B1.out hb B1.out.size).size _)
  have Hx2 := Lib.hid ((Hx1.out.below hb).alloc (.cells #[.bool true, .bool false, .bool true, .int .i64 f] 23))
  have Ha2 := Lib.hid ((Ha1.out.below hb).alloc (.cells #[.bool true, .bool false, .bool true, .int .i64 f] 23))
  have Hb2 : Hid (EntAt (w2.alloc (.cells #[.bool true, .bool false, .bool true, .int .i64 f] 23)) w2.heap.size true false true f) := Lib.hid (EntAt.new ..)
  clear hb
  obtain ⟨x0, x1, x2, x3⟩ := Hx2.out
  obtain ⟨a0, a1, a2, a3⟩ := Ha2.out
  obtain ⟨b0, b1, b2, b3⟩ := Hb2.out
  go_wp2_with fail
  refine (awake15 _).mono ?_
  rintro e w3 ⟨rfl, hb⟩
  clear x0 x1 x2 x3 a0 a1 a2 a3 b0 b1 b2 b3
  have B3 := Lib.hid (below_step B2.out hb B2.out.size)
  have Hx3 := Lib.hid ((Hx2.out.below hb))
  have Ha3 := Lib.hid ((Ha2.out.below hb))
  have Hb3 := Lib.hid ((Hb2.out.below hb))
  clear hb
  obtain ⟨x0, x1, x2, x3⟩ := Hx3.out
  obtain ⟨a0, a1, a2, a3⟩ := Ha3.out
  obtain ⟨b0, b1, b2, b3⟩ := Hb3.out
  go_wp2
  go_ret
  exact ⟨rfl, B3.out⟩
set_option maxHeartbeats 2000000 in
theorem cowFork_copy (f : Int) (W : World) (h : pgE true false true f = true) : Calls Try.prog 3 #[ent true false true f] W fun e w' => e = .returned (.bool true) ∧ Below W.heap.size W w' := by
  have H := Lib.hid h
  clear h
  go_enter Try.func3, Try.ntmps3
  have B0 : Hid (Below W.heap.size W (W.alloc (.cells #[.bool true, .bool false, .bool true, .int .i64 f] 23))) := Lib.hid ((Below.refl _ _).alloc (Nat.le_refl _) _)
  have Hx0 : Hid (EntAt (W.alloc (.cells #[.bool true, .bool false, .bool true, .int .i64 f] 23)) W.heap.size true false true f) := Lib.hid (EntAt.new ..)
  go_wp2_with fail
  refine (fork_copy f _ H.out).mono ?_
  rintro e w1 ⟨rfl, hb⟩
  have B1 : Hid (Below W.heap.size W (w1.alloc (.cells #[.bool true, .bool false, .bool true, .int .i64 f] 23))) := Lib.hid ((below_step B0.out hb B0.out.size).alloc (below_step B0.out hb B0.out.size).size _)
  have Hx1 := Lib.hid ((Hx0.out.below hb).alloc (.cells #[.bool true, .bool false, .bool true, .int .i64 f] 23))
  have Ha1 : Hid (EntAt (w1.alloc (.cells #[.bool true, .bool false, .bool true, .int .i64 f] 23)) w1.heap.size true false true f) := Lib.hid (EntAt.new ..)
  clear hb
  obtain ⟨x0, x1, x2, x3⟩ := Hx1.out
  obtain ⟨a0, a1, a2, a3⟩ := Ha1.out
  go_wp2_with fail
  refine (rfork_copy f _ H.out).mono ?_
  rintro e w2 ⟨rfl, hb⟩
  clear x0 x1 x2 x3 a0 a1 a2 a3
  have B2 : Hid (Below W.heap.size W (w2.alloc (.cells #[.bool true, .bool false, .bool true, .int .i64 f] 23))) := Lib.hid ((below_step B1.out hb B1.out.size).alloc (below_step B1.out hb B1.out.size).size _)
  have Hx2 := Lib.hid ((Hx1.out.below hb).alloc (.cells #[.bool true, .bool false, .bool true, .int .i64 f] 23))
  have Ha2 := Lib.hid ((Ha1.out.below hb).alloc (.cells #[.bool true, .bool false, .bool true, .int .i64 f] 23))
  have Hb2 : Hid (EntAt (w2.alloc (.cells #[.bool true, .bool false, .bool true, .int .i64 f] 23)) w2.heap.size true false true f) := Lib.hid (EntAt.new ..)
  clear hb
  obtain ⟨x0, x1, x2, x3⟩ := Hx2.out
  obtain ⟨a0, a1, a2, a3⟩ := Ha2.out
  obtain ⟨b0, b1, b2, b3⟩ := Hb2.out
  go_wp2_with fail
  refine (awake15 _).mono ?_
  rintro e w3 ⟨rfl, hb⟩
  clear x0 x1 x2 x3 a0 a1 a2 a3 b0 b1 b2 b3
  have B3 := Lib.hid (below_step B2.out hb B2.out.size)
  have Hx3 := Lib.hid ((Hx2.out.below hb))
  have Ha3 := Lib.hid ((Ha2.out.below hb))
  have Hb3 := Lib.hid ((Hb2.out.below hb))
  clear hb
  obtain ⟨x0, x1, x2, x3⟩ := Hx3.out
  obtain ⟨a0, a1, a2, a3⟩ := Ha3.out
  obtain ⟨b0, b1, b2, b3⟩ := Hb3.out
  go_wp2
  go_ret
  exact ⟨rfl, B3.out⟩
theorem cowFork_walk (p w c : Bool) (f : Int) (W : World) (_hf : -9223372036854775808 ≤ f ∧ f ≤ 9223372036854775807) : Calls Try.prog 3 #[ent p w c f] W fun e w' => e = .returned (.bool true) ∧ Below W.heap.size W w' := by
  cases h : pgE p w c f
  · exact cowFork_no p w c f W h
  · obtain ⟨rfl, hwc, -, -⟩ := pgE_yes h
    cases w <;> cases c
    · exact cowFork_read f W h
    · exact cowFork_copy f W h
    · exact cowFork_write f W h
    · simp at hwc
set_option maxHeartbeats 2000000 in
theorem cowWrite_no (p w c : Bool) (f n : Int) (W : World) (h : pgE p w c f = false) : Calls Try.prog 4 #[ent p w c f, .int .i64 n] W fun e w' => e = .returned (.bool true) ∧ Below W.heap.size W w' := by
  have H := Lib.hid h
  clear h
  go_enter Try.func4, Try.ntmps4
  have B0 : Hid (Below W.heap.size W (W.alloc (.cells #[.bool p, .bool w, .bool c, .int .i64 f] 23))) := Lib.hid ((Below.refl _ _).alloc (Nat.le_refl _) _)
  have Hx0 : Hid (EntAt (W.alloc (.cells #[.bool p, .bool w, .bool c, .int .i64 f] 23)) W.heap.size p w c f) := Lib.hid (EntAt.new ..)
  go_wp2_with fail
  refine (write_no p w c f n _ H.out).mono ?_
  rintro e w1 ⟨rfl, hb⟩
  have B1 := Lib.hid (below_step B0.out hb B0.out.size)
  have Hx1 := Lib.hid ((Hx0.out.below hb))
  clear hb
  obtain ⟨x0, x1, x2, x3⟩ := Hx1.out
  go_wp2_with fail
  refine (rwrite_no p w c f n _ H.out).mono ?_
  rintro e w2 ⟨rfl, hb⟩
  clear x0 x1 x2 x3
  have B2 := Lib.hid (below_step B1.out hb B1.out.size)
  have Hx2 := Lib.hid ((Hx1.out.below hb))
  clear hb
  obtain ⟨x0, x1, x2, x3⟩ := Hx2.out
  go_wp2_with fail
  refine (awake15 _).mono ?_
  rintro e w3 ⟨rfl, hb⟩
  clear x0 x1 x2 x3
  have B3 := Lib.hid (below_step B2.out hb B2.out.size)
  have Hx3 := Lib.hid ((Hx2.out.below hb))
  clear hb
  obtain ⟨x0, x1, x2, x3⟩ := Hx3.out
  go_wp2
  go_ret
  exact ⟨rfl, B3.out⟩
set_option maxHeartbeats 2000000 in
theorem cowWrite_few (w c : Bool) (f n : Int) (W : World) (h : pgE true w c f = true) (hn : n < 1) : Calls Try.prog 4 #[ent true w c f, .int .i64 n] W fun e w' => e = .returned (.bool true) ∧ Below W.heap.size W w' := by
  have H := Lib.hid h
  clear h
  have HN := Lib.hid hn
  clear hn
  go_enter Try.func4, Try.ntmps4
  have B0 : Hid (Below W.heap.size W (W.alloc (.cells #[.bool true, .bool w, .bool c, .int .i64 f] 23))) := Lib.hid ((Below.refl _ _).alloc (Nat.le_refl _) _)
  have Hx0 : Hid (EntAt (W.alloc (.cells #[.bool true, .bool w, .bool c, .int .i64 f] 23)) W.heap.size true w c f) := Lib.hid (EntAt.new ..)
  go_wp2_with fail
  refine (write_few true w c f n _ H.out HN.out).mono ?_
  rintro e w1 ⟨rfl, hb⟩
  have B1 := Lib.hid (below_step B0.out hb B0.out.size)
  have Hx1 := Lib.hid ((Hx0.out.below hb))
  clear hb
  obtain ⟨x0, x1, x2, x3⟩ := Hx1.out
  go_wp2_with fail
  refine (rwrite_few w c f n _ H.out HN.out).mono ?_
  rintro e w2 ⟨rfl, hb⟩
  clear x0 x1 x2 x3
  have B2 := Lib.hid (below_step B1.out hb B1.out.size)
  have Hx2 := Lib.hid ((Hx1.out.below hb))
  clear hb
  obtain ⟨x0, x1, x2, x3⟩ := Hx2.out
  go_wp2_with fail
  refine (awake15 _).mono ?_
  rintro e w3 ⟨rfl, hb⟩
  clear x0 x1 x2 x3
  have B3 := Lib.hid (below_step B2.out hb B2.out.size)
  have Hx3 := Lib.hid ((Hx2.out.below hb))
  clear hb
  obtain ⟨x0, x1, x2, x3⟩ := Hx3.out
  go_wp2
  go_ret
  exact ⟨rfl, B3.out⟩
set_option maxHeartbeats 2000000 in
theorem cowWrite_read (f n : Int) (W : World) (h : pgE true false false f = true) (hn : 1 ≤ n) : Calls Try.prog 4 #[ent true false false f, .int .i64 n] W fun e w' => e = .returned (.bool true) ∧ Below W.heap.size W w' := by
  have H := Lib.hid h
  clear h
  have HN := Lib.hid hn
  clear hn
  go_enter Try.func4, Try.ntmps4
  have B0 : Hid (Below W.heap.size W (W.alloc (.cells #[.bool true, .bool false, .bool false, .int .i64 f] 23))) := Lib.hid ((Below.refl _ _).alloc (Nat.le_refl _) _)
  have Hx0 : Hid (EntAt (W.alloc (.cells #[.bool true, .bool false, .bool false, .int .i64 f] 23)) W.heap.size true false false f) := Lib.hid (EntAt.new ..)
  go_wp2_with fail
  refine (write_read f n _ H.out HN.out).mono ?_
  rintro e w1 ⟨rfl, hb⟩
  have B1 := Lib.hid (below_step B0.out hb B0.out.size)
  have Hx1 := Lib.hid ((Hx0.out.below hb))
  clear hb
  obtain ⟨x0, x1, x2, x3⟩ := Hx1.out
  go_wp2_with fail
  refine (rwrite_read f n _ H.out HN.out).mono ?_
  rintro e w2 ⟨rfl, hb⟩
  clear x0 x1 x2 x3
  have B2 := Lib.hid (below_step B1.out hb B1.out.size)
  have Hx2 := Lib.hid ((Hx1.out.below hb))
  clear hb
  obtain ⟨x0, x1, x2, x3⟩ := Hx2.out
  go_wp2_with fail
  refine (awake15 _).mono ?_
  rintro e w3 ⟨rfl, hb⟩
  clear x0 x1 x2 x3
  have B3 := Lib.hid (below_step B2.out hb B2.out.size)
  have Hx3 := Lib.hid ((Hx2.out.below hb))
  clear hb
  obtain ⟨x0, x1, x2, x3⟩ := Hx3.out
  go_wp2
  go_ret
  exact ⟨rfl, B3.out⟩
set_option maxHeartbeats 2000000 in
theorem cowWrite_write (f n : Int) (W : World) (h : pgE true true false f = true) (hn : 1 ≤ n) : Calls Try.prog 4 #[ent true true false f, .int .i64 n] W fun e w' => e = .returned (.bool true) ∧ Below W.heap.size W w' := by
  have H := Lib.hid h
  clear h
  have HN := Lib.hid hn
  clear hn
  go_enter Try.func4, Try.ntmps4
  have B0 : Hid (Below W.heap.size W (W.alloc (.cells #[.bool true, .bool true, .bool false, .int .i64 f] 23))) := Lib.hid ((Below.refl _ _).alloc (Nat.le_refl _) _)
  have Hx0 : Hid (EntAt (W.alloc (.cells #[.bool true, .bool true, .bool false, .int .i64 f] 23)) W.heap.size true true false f) := Lib.hid (EntAt.new ..)
  go_wp2_with fail
  refine (write_write f n _ H.out HN.out).mono ?_
  rintro e w1 ⟨rfl, hb⟩
  have B1 := Lib.hid (below_step B0.out hb B0.out.size)
  have Hx1 := Lib.hid ((Hx0.out.below hb))
  clear hb
  obtain ⟨x0, x1, x2, x3⟩ := Hx1.out
  go_wp2_with fail
  refine (rwrite_write f n _ H.out HN.out).mono ?_
  rintro e w2 ⟨rfl, hb⟩
  clear x0 x1 x2 x3
  have B2 := Lib.hid (below_step B1.out hb B1.out.size)
  have Hx2 := Lib.hid ((Hx1.out.below hb))
  clear hb
  obtain ⟨x0, x1, x2, x3⟩ := Hx2.out
  go_wp2_with fail
  refine (awake15 _).mono ?_
  rintro e w3 ⟨rfl, hb⟩
  clear x0 x1 x2 x3
  have B3 := Lib.hid (below_step B2.out hb B2.out.size)
  have Hx3 := Lib.hid ((Hx2.out.below hb))
  clear hb
  obtain ⟨x0, x1, x2, x3⟩ := Hx3.out
  go_wp2
  go_ret
  exact ⟨rfl, B3.out⟩
set_option maxHeartbeats 2000000 in
theorem cowWrite_own (f : Int) (W : World) (h : pgE true false true f = true) : Calls Try.prog 4 #[ent true false true f, .int .i64 1] W fun e w' => e = .returned (.bool true) ∧ Below W.heap.size W w' := by
  have H := Lib.hid h
  clear h
  go_enter Try.func4, Try.ntmps4
  have B0 : Hid (Below W.heap.size W (W.alloc (.cells #[.bool true, .bool false, .bool true, .int .i64 f] 23))) := Lib.hid ((Below.refl _ _).alloc (Nat.le_refl _) _)
  have Hx0 : Hid (EntAt (W.alloc (.cells #[.bool true, .bool false, .bool true, .int .i64 f] 23)) W.heap.size true false true f) := Lib.hid (EntAt.new ..)
  go_wp2_with fail
  refine (write_own f _ H.out).mono ?_
  rintro e w1 ⟨rfl, hb⟩
  have B1 := Lib.hid (below_step B0.out hb B0.out.size)
  have Hx1 := Lib.hid ((Hx0.out.below hb))
  clear hb
  obtain ⟨x0, x1, x2, x3⟩ := Hx1.out
  go_wp2_with fail
  refine (rwrite_own f _ H.out).mono ?_
  rintro e w2 ⟨rfl, hb⟩
  clear x0 x1 x2 x3
  have B2 := Lib.hid (below_step B1.out hb B1.out.size)
  have Hx2 := Lib.hid ((Hx1.out.below hb))
  clear hb
  obtain ⟨x0, x1, x2, x3⟩ := Hx2.out
  go_wp2_with fail
  refine (awake15 _).mono ?_
  rintro e w3 ⟨rfl, hb⟩
  clear x0 x1 x2 x3
  have B3 := Lib.hid (below_step B2.out hb B2.out.size)
  have Hx3 := Lib.hid ((Hx2.out.below hb))
  clear hb
  obtain ⟨x0, x1, x2, x3⟩ := Hx3.out
  go_wp2
  go_ret
  exact ⟨rfl, B3.out⟩
set_option maxHeartbeats 2000000 in
theorem cowWrite_many (f n : Int) (W : World) (h : pgE true false true f = true) (hn : 1 < n) : Calls Try.prog 4 #[ent true false true f, .int .i64 n] W fun e w' => e = .returned (.bool true) ∧ Below W.heap.size W w' := by
  have H := Lib.hid h
  clear h
  have HN := Lib.hid hn
  clear hn
  go_enter Try.func4, Try.ntmps4
  have B0 : Hid (Below W.heap.size W (W.alloc (.cells #[.bool true, .bool false, .bool true, .int .i64 f] 23))) := Lib.hid ((Below.refl _ _).alloc (Nat.le_refl _) _)
  have Hx0 : Hid (EntAt (W.alloc (.cells #[.bool true, .bool false, .bool true, .int .i64 f] 23)) W.heap.size true false true f) := Lib.hid (EntAt.new ..)
  go_wp2_with fail
  refine (write_many f n _ H.out HN.out).mono ?_
  rintro e w1 ⟨rfl, hb⟩
  have B1 := Lib.hid (below_step B0.out hb B0.out.size)
  have Hx1 := Lib.hid ((Hx0.out.below hb))
  clear hb
  obtain ⟨x0, x1, x2, x3⟩ := Hx1.out
  go_wp2_with fail
  refine (rwrite_many f n _ H.out HN.out).mono ?_
  rintro e w2 ⟨rfl, hb⟩
  clear x0 x1 x2 x3
  have B2 := Lib.hid (below_step B1.out hb B1.out.size)
  have Hx2 := Lib.hid ((Hx1.out.below hb))
  clear hb
  obtain ⟨x0, x1, x2, x3⟩ := Hx2.out
  go_wp2_with fail
  refine (awake15 _).mono ?_
  rintro e w3 ⟨rfl, hb⟩
  clear x0 x1 x2 x3
  have B3 := Lib.hid (below_step B2.out hb B2.out.size)
  have Hx3 := Lib.hid ((Hx2.out.below hb))
  clear hb
  obtain ⟨x0, x1, x2, x3⟩ := Hx3.out
  go_wp2
  go_ret
  exact ⟨rfl, B3.out⟩
theorem cowWrite_walk (p w c : Bool) (f n : Int) (W : World) (_hf : -9223372036854775808 ≤ f ∧ f ≤ 9223372036854775807) (_hn : -9223372036854775808 ≤ n ∧ n ≤ 9223372036854775807) : Calls Try.prog 4 #[ent p w c f, .int .i64 n] W fun e w' => e = .returned (.bool true) ∧ Below W.heap.size W w' := by
  cases h : pgE p w c f
  · exact cowWrite_no p w c f n W h
  · obtain ⟨rfl, hwc, -, -⟩ := pgE_yes h
    by_cases hn : n < 1
    · exact cowWrite_few w c f n W h hn
    · cases w <;> cases c
      · exact cowWrite_read f n W h (by omega)
      · by_cases h1 : n = 1
        · subst h1
          exact cowWrite_own f W h
        · exact cowWrite_many f n W h (by omega)
      · exact cowWrite_write f n W h (by omega)
      · simp at hwc
set_option maxHeartbeats 2000000 in
theorem cowSet_no (p w c : Bool) (f n : Int) (x : Bool) (W : World) (h : pgE p w c f = false) : Calls Try.prog 5 #[ent p w c f, .int .i64 n, .bool x] W fun e w' => e = .returned (.bool true) ∧ Below W.heap.size W w' := by
  have H := Lib.hid h
  clear h
  go_enter Try.func5, Try.ntmps5
  have B0 : Hid (Below W.heap.size W (W.alloc (.cells #[.bool p, .bool w, .bool c, .int .i64 f] 23))) := Lib.hid ((Below.refl _ _).alloc (Nat.le_refl _) _)
  have Hx0 : Hid (EntAt (W.alloc (.cells #[.bool p, .bool w, .bool c, .int .i64 f] 23)) W.heap.size p w c f) := Lib.hid (EntAt.new ..)
  go_wp2_with fail
  refine (set_no p w c f n x _ H.out).mono ?_
  rintro e w1 ⟨rfl, hb⟩
  have B1 : Hid (Below W.heap.size W (w1.alloc (.cells #[.bool false, .bool false, .bool false, .int .i64 0] 23))) := Lib.hid ((below_step B0.out hb B0.out.size).alloc (below_step B0.out hb B0.out.size).size _)
  have Hx1 := Lib.hid ((Hx0.out.below hb).alloc (.cells #[.bool false, .bool false, .bool false, .int .i64 0] 23))
  have Ha1 : Hid (EntAt (w1.alloc (.cells #[.bool false, .bool false, .bool false, .int .i64 0] 23)) w1.heap.size false false false 0) := Lib.hid (EntAt.new ..)
  clear hb
  obtain ⟨x0, x1, x2, x3⟩ := Hx1.out
  obtain ⟨a0, a1, a2, a3⟩ := Ha1.out
  go_wp2_with fail
  refine (rset_no p w c f n x _ H.out).mono ?_
  rintro e w2 ⟨rfl, hb⟩
  clear x0 x1 x2 x3 a0 a1 a2 a3
  have B2 : Hid (Below W.heap.size W (w2.alloc (.cells #[.bool false, .bool false, .bool false, .int .i64 0] 23))) := Lib.hid ((below_step B1.out hb B1.out.size).alloc (below_step B1.out hb B1.out.size).size _)
  have Hx2 := Lib.hid ((Hx1.out.below hb).alloc (.cells #[.bool false, .bool false, .bool false, .int .i64 0] 23))
  have Ha2 := Lib.hid ((Ha1.out.below hb).alloc (.cells #[.bool false, .bool false, .bool false, .int .i64 0] 23))
  have Hb2 : Hid (EntAt (w2.alloc (.cells #[.bool false, .bool false, .bool false, .int .i64 0] 23)) w2.heap.size false false false 0) := Lib.hid (EntAt.new ..)
  clear hb
  obtain ⟨x0, x1, x2, x3⟩ := Hx2.out
  obtain ⟨a0, a1, a2, a3⟩ := Ha2.out
  obtain ⟨b0, b1, b2, b3⟩ := Hb2.out
  go_wp2_with fail
  refine (awake15 _).mono ?_
  rintro e w3 ⟨rfl, hb⟩
  clear x0 x1 x2 x3 a0 a1 a2 a3 b0 b1 b2 b3
  have B3 := Lib.hid (below_step B2.out hb B2.out.size)
  have Hx3 := Lib.hid ((Hx2.out.below hb))
  have Ha3 := Lib.hid ((Ha2.out.below hb))
  have Hb3 := Lib.hid ((Hb2.out.below hb))
  clear hb
  obtain ⟨x0, x1, x2, x3⟩ := Hx3.out
  obtain ⟨a0, a1, a2, a3⟩ := Ha3.out
  obtain ⟨b0, b1, b2, b3⟩ := Hb3.out
  go_wp2
  go_ret
  exact ⟨rfl, B3.out⟩
set_option maxHeartbeats 2000000 in
theorem cowSet_few (w c : Bool) (f n : Int) (x : Bool) (W : World) (h : pgE true w c f = true) (hn : n < 1) : Calls Try.prog 5 #[ent true w c f, .int .i64 n, .bool x] W fun e w' => e = .returned (.bool true) ∧ Below W.heap.size W w' := by
  have H := Lib.hid h
  clear h
  have HN := Lib.hid hn
  clear hn
  go_enter Try.func5, Try.ntmps5
  have B0 : Hid (Below W.heap.size W (W.alloc (.cells #[.bool true, .bool w, .bool c, .int .i64 f] 23))) := Lib.hid ((Below.refl _ _).alloc (Nat.le_refl _) _)
  have Hx0 : Hid (EntAt (W.alloc (.cells #[.bool true, .bool w, .bool c, .int .i64 f] 23)) W.heap.size true w c f) := Lib.hid (EntAt.new ..)
  go_wp2_with fail
  refine (set_few true w c f n x _ H.out HN.out).mono ?_
  rintro e w1 ⟨rfl, hb⟩
  have B1 : Hid (Below W.heap.size W (w1.alloc (.cells #[.bool false, .bool false, .bool false, .int .i64 0] 23))) := Lib.hid ((below_step B0.out hb B0.out.size).alloc (below_step B0.out hb B0.out.size).size _)
  have Hx1 := Lib.hid ((Hx0.out.below hb).alloc (.cells #[.bool false, .bool false, .bool false, .int .i64 0] 23))
  have Ha1 : Hid (EntAt (w1.alloc (.cells #[.bool false, .bool false, .bool false, .int .i64 0] 23)) w1.heap.size false false false 0) := Lib.hid (EntAt.new ..)
  clear hb
  obtain ⟨x0, x1, x2, x3⟩ := Hx1.out
  obtain ⟨a0, a1, a2, a3⟩ := Ha1.out
  go_wp2_with fail
  refine (rset_few w c f n x _ H.out HN.out).mono ?_
  rintro e w2 ⟨rfl, hb⟩
  clear x0 x1 x2 x3 a0 a1 a2 a3
  have B2 : Hid (Below W.heap.size W (w2.alloc (.cells #[.bool false, .bool false, .bool false, .int .i64 0] 23))) := Lib.hid ((below_step B1.out hb B1.out.size).alloc (below_step B1.out hb B1.out.size).size _)
  have Hx2 := Lib.hid ((Hx1.out.below hb).alloc (.cells #[.bool false, .bool false, .bool false, .int .i64 0] 23))
  have Ha2 := Lib.hid ((Ha1.out.below hb).alloc (.cells #[.bool false, .bool false, .bool false, .int .i64 0] 23))
  have Hb2 : Hid (EntAt (w2.alloc (.cells #[.bool false, .bool false, .bool false, .int .i64 0] 23)) w2.heap.size false false false 0) := Lib.hid (EntAt.new ..)
  clear hb
  obtain ⟨x0, x1, x2, x3⟩ := Hx2.out
  obtain ⟨a0, a1, a2, a3⟩ := Ha2.out
  obtain ⟨b0, b1, b2, b3⟩ := Hb2.out
  go_wp2_with fail
  refine (awake15 _).mono ?_
  rintro e w3 ⟨rfl, hb⟩
  clear x0 x1 x2 x3 a0 a1 a2 a3 b0 b1 b2 b3
  have B3 := Lib.hid (below_step B2.out hb B2.out.size)
  have Hx3 := Lib.hid ((Hx2.out.below hb))
  have Ha3 := Lib.hid ((Ha2.out.below hb))
  have Hb3 := Lib.hid ((Hb2.out.below hb))
  clear hb
  obtain ⟨x0, x1, x2, x3⟩ := Hx3.out
  obtain ⟨a0, a1, a2, a3⟩ := Ha3.out
  obtain ⟨b0, b1, b2, b3⟩ := Hb3.out
  go_wp2
  go_ret
  exact ⟨rfl, B3.out⟩
set_option maxHeartbeats 2000000 in
theorem cowSet_read (w c : Bool) (f n : Int) (W : World) (h : pgE true w c f = true) (hn : 1 ≤ n) : Calls Try.prog 5 #[ent true w c f, .int .i64 n, .bool false] W fun e w' => e = .returned (.bool true) ∧ Below W.heap.size W w' := by
  have H := Lib.hid h
  clear h
  have HN := Lib.hid hn
  clear hn
  go_enter Try.func5, Try.ntmps5
  have B0 : Hid (Below W.heap.size W (W.alloc (.cells #[.bool true, .bool w, .bool c, .int .i64 f] 23))) := Lib.hid ((Below.refl _ _).alloc (Nat.le_refl _) _)
  have Hx0 : Hid (EntAt (W.alloc (.cells #[.bool true, .bool w, .bool c, .int .i64 f] 23)) W.heap.size true w c f) := Lib.hid (EntAt.new ..)
  go_wp2_with fail
  refine (set_read w c f n _ H.out HN.out).mono ?_
  rintro e w1 ⟨rfl, hb⟩
  have B1 : Hid (Below W.heap.size W (w1.alloc (.cells #[.bool true, .bool false, .bool false, .int .i64 f] 23))) := Lib.hid ((below_step B0.out hb B0.out.size).alloc (below_step B0.out hb B0.out.size).size _)
  have Hx1 := Lib.hid ((Hx0.out.below hb).alloc (.cells #[.bool true, .bool false, .bool false, .int .i64 f] 23))
  have Ha1 : Hid (EntAt (w1.alloc (.cells #[.bool true, .bool false, .bool false, .int .i64 f] 23)) w1.heap.size true false false f) := Lib.hid (EntAt.new ..)
  clear hb
  obtain ⟨x0, x1, x2, x3⟩ := Hx1.out
  obtain ⟨a0, a1, a2, a3⟩ := Ha1.out
  go_wp2_with fail
  refine (rset_read w c f n _ H.out HN.out).mono ?_
  rintro e w2 ⟨rfl, hb⟩
  clear x0 x1 x2 x3 a0 a1 a2 a3
  have B2 : Hid (Below W.heap.size W (w2.alloc (.cells #[.bool true, .bool false, .bool false, .int .i64 f] 23))) := Lib.hid ((below_step B1.out hb B1.out.size).alloc (below_step B1.out hb B1.out.size).size _)
  have Hx2 := Lib.hid ((Hx1.out.below hb).alloc (.cells #[.bool true, .bool false, .bool false, .int .i64 f] 23))
  have Ha2 := Lib.hid ((Ha1.out.below hb).alloc (.cells #[.bool true, .bool false, .bool false, .int .i64 f] 23))
  have Hb2 : Hid (EntAt (w2.alloc (.cells #[.bool true, .bool false, .bool false, .int .i64 f] 23)) w2.heap.size true false false f) := Lib.hid (EntAt.new ..)
  clear hb
  obtain ⟨x0, x1, x2, x3⟩ := Hx2.out
  obtain ⟨a0, a1, a2, a3⟩ := Ha2.out
  obtain ⟨b0, b1, b2, b3⟩ := Hb2.out
  go_wp2_with fail
  refine (awake15 _).mono ?_
  rintro e w3 ⟨rfl, hb⟩
  clear x0 x1 x2 x3 a0 a1 a2 a3 b0 b1 b2 b3
  have B3 := Lib.hid (below_step B2.out hb B2.out.size)
  have Hx3 := Lib.hid ((Hx2.out.below hb))
  have Ha3 := Lib.hid ((Ha2.out.below hb))
  have Hb3 := Lib.hid ((Hb2.out.below hb))
  clear hb
  obtain ⟨x0, x1, x2, x3⟩ := Hx3.out
  obtain ⟨a0, a1, a2, a3⟩ := Ha3.out
  obtain ⟨b0, b1, b2, b3⟩ := Hb3.out
  go_wp2
  go_ret
  exact ⟨rfl, B3.out⟩
set_option maxHeartbeats 2000000 in
theorem cowSet_write (w c : Bool) (f : Int) (W : World) (h : pgE true w c f = true) : Calls Try.prog 5 #[ent true w c f, .int .i64 1, .bool true] W fun e w' => e = .returned (.bool true) ∧ Below W.heap.size W w' := by
  have H := Lib.hid h
  clear h
  go_enter Try.func5, Try.ntmps5
  have B0 : Hid (Below W.heap.size W (W.alloc (.cells #[.bool true, .bool w, .bool c, .int .i64 f] 23))) := Lib.hid ((Below.refl _ _).alloc (Nat.le_refl _) _)
  have Hx0 : Hid (EntAt (W.alloc (.cells #[.bool true, .bool w, .bool c, .int .i64 f] 23)) W.heap.size true w c f) := Lib.hid (EntAt.new ..)
  go_wp2_with fail
  refine (set_write w c f _ H.out).mono ?_
  rintro e w1 ⟨rfl, hb⟩
  have B1 : Hid (Below W.heap.size W (w1.alloc (.cells #[.bool true, .bool true, .bool false, .int .i64 f] 23))) := Lib.hid ((below_step B0.out hb B0.out.size).alloc (below_step B0.out hb B0.out.size).size _)
  have Hx1 := Lib.hid ((Hx0.out.below hb).alloc (.cells #[.bool true, .bool true, .bool false, .int .i64 f] 23))
  have Ha1 : Hid (EntAt (w1.alloc (.cells #[.bool true, .bool true, .bool false, .int .i64 f] 23)) w1.heap.size true true false f) := Lib.hid (EntAt.new ..)
  clear hb
  obtain ⟨x0, x1, x2, x3⟩ := Hx1.out
  obtain ⟨a0, a1, a2, a3⟩ := Ha1.out
  go_wp2_with fail
  refine (rset_write w c f _ H.out).mono ?_
  rintro e w2 ⟨rfl, hb⟩
  clear x0 x1 x2 x3 a0 a1 a2 a3
  have B2 : Hid (Below W.heap.size W (w2.alloc (.cells #[.bool true, .bool true, .bool false, .int .i64 f] 23))) := Lib.hid ((below_step B1.out hb B1.out.size).alloc (below_step B1.out hb B1.out.size).size _)
  have Hx2 := Lib.hid ((Hx1.out.below hb).alloc (.cells #[.bool true, .bool true, .bool false, .int .i64 f] 23))
  have Ha2 := Lib.hid ((Ha1.out.below hb).alloc (.cells #[.bool true, .bool true, .bool false, .int .i64 f] 23))
  have Hb2 : Hid (EntAt (w2.alloc (.cells #[.bool true, .bool true, .bool false, .int .i64 f] 23)) w2.heap.size true true false f) := Lib.hid (EntAt.new ..)
  clear hb
  obtain ⟨x0, x1, x2, x3⟩ := Hx2.out
  obtain ⟨a0, a1, a2, a3⟩ := Ha2.out
  obtain ⟨b0, b1, b2, b3⟩ := Hb2.out
  go_wp2_with fail
  refine (awake15 _).mono ?_
  rintro e w3 ⟨rfl, hb⟩
  clear x0 x1 x2 x3 a0 a1 a2 a3 b0 b1 b2 b3
  have B3 := Lib.hid (below_step B2.out hb B2.out.size)
  have Hx3 := Lib.hid ((Hx2.out.below hb))
  have Ha3 := Lib.hid ((Ha2.out.below hb))
  have Hb3 := Lib.hid ((Hb2.out.below hb))
  clear hb
  obtain ⟨x0, x1, x2, x3⟩ := Hx3.out
  obtain ⟨a0, a1, a2, a3⟩ := Ha3.out
  obtain ⟨b0, b1, b2, b3⟩ := Hb3.out
  go_wp2
  go_ret
  exact ⟨rfl, B3.out⟩
set_option maxHeartbeats 2000000 in
theorem cowSet_copy (w c : Bool) (f n : Int) (W : World) (h : pgE true w c f = true) (hn : 1 < n) : Calls Try.prog 5 #[ent true w c f, .int .i64 n, .bool true] W fun e w' => e = .returned (.bool true) ∧ Below W.heap.size W w' := by
  have H := Lib.hid h
  clear h
  have HN := Lib.hid hn
  clear hn
  go_enter Try.func5, Try.ntmps5
  have B0 : Hid (Below W.heap.size W (W.alloc (.cells #[.bool true, .bool w, .bool c, .int .i64 f] 23))) := Lib.hid ((Below.refl _ _).alloc (Nat.le_refl _) _)
  have Hx0 : Hid (EntAt (W.alloc (.cells #[.bool true, .bool w, .bool c, .int .i64 f] 23)) W.heap.size true w c f) := Lib.hid (EntAt.new ..)
  go_wp2_with fail
  refine (set_copy w c f n _ H.out HN.out).mono ?_
  rintro e w1 ⟨rfl, hb⟩
  have B1 : Hid (Below W.heap.size W (w1.alloc (.cells #[.bool true, .bool false, .bool true, .int .i64 f] 23))) := Lib.hid ((below_step B0.out hb B0.out.size).alloc (below_step B0.out hb B0.out.size).size _)
  have Hx1 := Lib.hid ((Hx0.out.below hb).alloc (.cells #[.bool true, .bool false, .bool true, .int .i64 f] 23))
  have Ha1 : Hid (EntAt (w1.alloc (.cells #[.bool true, .bool false, .bool true, .int .i64 f] 23)) w1.heap.size true false true f) := Lib.hid (EntAt.new ..)
  clear hb
  obtain ⟨x0, x1, x2, x3⟩ := Hx1.out
  obtain ⟨a0, a1, a2, a3⟩ := Ha1.out
  go_wp2_with fail
  refine (rset_copy w c f n _ H.out HN.out).mono ?_
  rintro e w2 ⟨rfl, hb⟩
  clear x0 x1 x2 x3 a0 a1 a2 a3
  have B2 : Hid (Below W.heap.size W (w2.alloc (.cells #[.bool true, .bool false, .bool true, .int .i64 f] 23))) := Lib.hid ((below_step B1.out hb B1.out.size).alloc (below_step B1.out hb B1.out.size).size _)
  have Hx2 := Lib.hid ((Hx1.out.below hb).alloc (.cells #[.bool true, .bool false, .bool true, .int .i64 f] 23))
  have Ha2 := Lib.hid ((Ha1.out.below hb).alloc (.cells #[.bool true, .bool false, .bool true, .int .i64 f] 23))
  have Hb2 : Hid (EntAt (w2.alloc (.cells #[.bool true, .bool false, .bool true, .int .i64 f] 23)) w2.heap.size true false true f) := Lib.hid (EntAt.new ..)
  clear hb
  obtain ⟨x0, x1, x2, x3⟩ := Hx2.out
  obtain ⟨a0, a1, a2, a3⟩ := Ha2.out
  obtain ⟨b0, b1, b2, b3⟩ := Hb2.out
  go_wp2_with fail
  refine (awake15 _).mono ?_
  rintro e w3 ⟨rfl, hb⟩
  clear x0 x1 x2 x3 a0 a1 a2 a3 b0 b1 b2 b3
  have B3 := Lib.hid (below_step B2.out hb B2.out.size)
  have Hx3 := Lib.hid ((Hx2.out.below hb))
  have Ha3 := Lib.hid ((Ha2.out.below hb))
  have Hb3 := Lib.hid ((Hb2.out.below hb))
  clear hb
  obtain ⟨x0, x1, x2, x3⟩ := Hx3.out
  obtain ⟨a0, a1, a2, a3⟩ := Ha3.out
  obtain ⟨b0, b1, b2, b3⟩ := Hb3.out
  go_wp2
  go_ret
  exact ⟨rfl, B3.out⟩
theorem cowSet_walk (p w c : Bool) (f n : Int) (x : Bool) (W : World) (_hf : -9223372036854775808 ≤ f ∧ f ≤ 9223372036854775807) (_hn : -9223372036854775808 ≤ n ∧ n ≤ 9223372036854775807) : Calls Try.prog 5 #[ent p w c f, .int .i64 n, .bool x] W fun e w' => e = .returned (.bool true) ∧ Below W.heap.size W w' := by
  cases h : pgE p w c f
  · exact cowSet_no p w c f n x W h
  · obtain ⟨rfl, -, -, -⟩ := pgE_yes h
    by_cases hn : n < 1
    · exact cowSet_few w c f n x W h hn
    · cases x
      · exact cowSet_read w c f n W h (by omega)
      · by_cases h1 : n = 1
        · subst h1
          exact cowSet_write w c f W h
        · exact cowSet_copy w c f n W h (by omega)
end Go.Proofs.Ytgalcafpkfakdaa
