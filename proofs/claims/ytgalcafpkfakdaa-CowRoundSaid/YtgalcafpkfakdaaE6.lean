/- The walk of CowRound. No condition. -/
import Derived.Test.YtgalcafpkfakdaaE5
namespace Go.Proofs.Ytgalcafpkfakdaa
open Go.RowKit
set_option maxRecDepth 100000

theorem set_some (w c : Bool) (f n : Int) (b : Bool) (W : World) (h : pgE true w c f = true) (hn : 1 ≤ n) : Calls Try.prog 13 #[ent true w c f, .int .i64 n, .bool b] W fun e w' => ∃ x y, e = .returned (.tuple #[ent true x y f, .int .i64 0]) ∧ Below W.heap.size W w' := by
  cases b
  · exact (set_read w c f n W h hn).mono fun e w' k => ⟨_, _, k⟩
  · by_cases h1 : n = 1
    · subst h1
      exact (set_write w c f W h).mono fun e w' k => ⟨_, _, k⟩
    · exact (set_copy w c f n W h (by omega)).mono fun e w' k => ⟨_, _, k⟩
set_option maxHeartbeats 2000000 in
theorem cowRound_no (p w c : Bool) (f n : Int) (W : World) (h : pgE p w c f = false) : Calls Try.prog 7 #[ent p w c f, .int .i64 n] W fun e w' => e = .returned (.bool true) ∧ Below W.heap.size W w' := by
  have H := Lib.hid h
  clear h
  go_enter Try.func7, Try.ntmps7
  have B0 : Hid (Below W.heap.size W (W.alloc (.cells #[.bool p, .bool w, .bool c, .int .i64 f] 23))) := Lib.hid ((Below.refl _ _).alloc (Nat.le_refl _) _)
  have Hx0 : Hid (EntAt (W.alloc (.cells #[.bool p, .bool w, .bool c, .int .i64 f] 23)) W.heap.size p w c f) := Lib.hid (EntAt.new ..)
  go_wp2_with fail
  refine (fork_no p w c f _ H.out).mono ?_
  rintro e w1 ⟨rfl, hb⟩
  have B1 : Hid (Below W.heap.size W (w1.alloc (.cells #[.bool false, .bool false, .bool false, .int .i64 0] 23))) := Lib.hid ((below_step B0.out hb B0.out.size).alloc (below_step B0.out hb B0.out.size).size _)
  have Hx1 := Lib.hid ((Hx0.out.below hb).alloc (.cells #[.bool false, .bool false, .bool false, .int .i64 0] 23))
  have Ha1 : Hid (EntAt (w1.alloc (.cells #[.bool false, .bool false, .bool false, .int .i64 0] 23)) w1.heap.size false false false 0) := Lib.hid (EntAt.new ..)
  clear hb
  obtain ⟨x0, x1, x2, x3⟩ := Hx1.out
  obtain ⟨a0, a1, a2, a3⟩ := Ha1.out
  go_wp2_with fail
  refine (awake15 _).mono ?_
  rintro e w2 ⟨rfl, hb⟩
  clear x0 x1 x2 x3 a0 a1 a2 a3
  have B2 := Lib.hid (below_step B1.out hb B1.out.size)
  have Hx2 := Lib.hid ((Hx1.out.below hb))
  have Ha2 := Lib.hid ((Ha1.out.below hb))
  clear hb
  obtain ⟨x0, x1, x2, x3⟩ := Hx2.out
  obtain ⟨a0, a1, a2, a3⟩ := Ha2.out
  go_wp2
  go_ret
  exact ⟨rfl, B2.out⟩
set_option maxHeartbeats 4000000 in
theorem cowRound_read_few (f n : Int) (W : World) (h : pgE true false false f = true) (hn : n < 1) : Calls Try.prog 7 #[ent true false false f, .int .i64 n] W fun e w' => e = .returned (.bool true) ∧ Below W.heap.size W w' := by
  have HA : Hid (pgE true false false f = true) := Lib.hid (pgE_of h)
  have H := Lib.hid h
  clear h
  have HN := Lib.hid hn
  go_enter Try.func7, Try.ntmps7
  have B0 : Hid (Below W.heap.size W (W.alloc (.cells #[.bool true, .bool false, .bool false, .int .i64 f] 23))) := Lib.hid ((Below.refl _ _).alloc (Nat.le_refl _) _)
  have Hx0 : Hid (EntAt (W.alloc (.cells #[.bool true, .bool false, .bool false, .int .i64 f] 23)) W.heap.size true false false f) := Lib.hid (EntAt.new ..)
  go_wp2_with fail
  refine (fork_read f _ H.out).mono ?_
  rintro e w1 ⟨rfl, hb⟩
  have B1 : Hid (Below W.heap.size W (w1.alloc (.cells #[.bool true, .bool false, .bool false, .int .i64 f] 23))) := Lib.hid ((below_step B0.out hb B0.out.size).alloc (below_step B0.out hb B0.out.size).size _)
  have Hx1 := Lib.hid ((Hx0.out.below hb).alloc (.cells #[.bool true, .bool false, .bool false, .int .i64 f] 23))
  have Ha1 : Hid (EntAt (w1.alloc (.cells #[.bool true, .bool false, .bool false, .int .i64 f] 23)) w1.heap.size true false false f) := Lib.hid (EntAt.new ..)
  clear hb
  obtain ⟨x0, x1, x2, x3⟩ := Hx1.out
  obtain ⟨a0, a1, a2, a3⟩ := Ha1.out
  go_wp2_with fail
  refine (write_read f 1 _ HA.out (by decide)).mono ?_
  rintro e w2 ⟨rfl, hb⟩
  clear x0 x1 x2 x3 a0 a1 a2 a3
  have B2 := Lib.hid (below_step B1.out hb B1.out.size)
  have Hx2 := Lib.hid ((Hx1.out.below hb))
  have Ha2 := Lib.hid ((Ha1.out.below hb))
  clear hb
  obtain ⟨x0, x1, x2, x3⟩ := Hx2.out
  obtain ⟨a0, a1, a2, a3⟩ := Ha2.out
  go_wp2_with fail
  refine (set_read false false f 1 _ HA.out (by decide)).mono ?_
  rintro e w3 ⟨rfl, hb⟩
  clear x0 x1 x2 x3 a0 a1 a2 a3
  have B3 : Hid (Below W.heap.size W (w3.alloc (.cells #[.bool true, .bool false, .bool false, .int .i64 f] 23))) := Lib.hid ((below_step B2.out hb B2.out.size).alloc (below_step B2.out hb B2.out.size).size _)
  have Hx3 := Lib.hid ((Hx2.out.below hb).alloc (.cells #[.bool true, .bool false, .bool false, .int .i64 f] 23))
  have Ha3 := Lib.hid ((Ha2.out.below hb).alloc (.cells #[.bool true, .bool false, .bool false, .int .i64 f] 23))
  have Hb3 : Hid (EntAt (w3.alloc (.cells #[.bool true, .bool false, .bool false, .int .i64 f] 23)) w3.heap.size true false false f) := Lib.hid (EntAt.new ..)
  clear hb
  obtain ⟨x0, x1, x2, x3⟩ := Hx3.out
  obtain ⟨a0, a1, a2, a3⟩ := Ha3.out
  obtain ⟨b0, b1, b2, b3⟩ := Hb3.out
  go_wp2_with fail
  refine (set_some false false f 1 _ _ H.out (by decide)).mono ?_
  rintro e w4 ⟨y, z, rfl, hb⟩
  clear x0 x1 x2 x3 a0 a1 a2 a3 b0 b1 b2 b3
  have B4 : Hid (Below W.heap.size W (w4.alloc (.cells #[.bool true, .bool y, .bool z, .int .i64 f] 23))) := Lib.hid ((below_step B3.out hb B3.out.size).alloc (below_step B3.out hb B3.out.size).size _)
  have Hx4 := Lib.hid ((Hx3.out.below hb).alloc (.cells #[.bool true, .bool y, .bool z, .int .i64 f] 23))
  have Ha4 := Lib.hid ((Ha3.out.below hb).alloc (.cells #[.bool true, .bool y, .bool z, .int .i64 f] 23))
  have Hb4 := Lib.hid ((Hb3.out.below hb).alloc (.cells #[.bool true, .bool y, .bool z, .int .i64 f] 23))
  have Hs4 : Hid (EntAt (w4.alloc (.cells #[.bool true, .bool y, .bool z, .int .i64 f] 23)) w4.heap.size true y z f) := Lib.hid (EntAt.new ..)
  clear hb
  obtain ⟨x0, x1, x2, x3⟩ := Hx4.out
  obtain ⟨a0, a1, a2, a3⟩ := Ha4.out
  obtain ⟨b0, b1, b2, b3⟩ := Hb4.out
  obtain ⟨s0, s1, s2, s3⟩ := Hs4.out
  go_wp2_with fail
  refine (awake15 _).mono ?_
  rintro e w5 ⟨rfl, hb⟩
  clear x0 x1 x2 x3 a0 a1 a2 a3 b0 b1 b2 b3 s0 s1 s2 s3
  have B5 := Lib.hid (below_step B4.out hb B4.out.size)
  have Hx5 := Lib.hid ((Hx4.out.below hb))
  have Ha5 := Lib.hid ((Ha4.out.below hb))
  have Hb5 := Lib.hid ((Hb4.out.below hb))
  have Hs5 := Lib.hid ((Hs4.out.below hb))
  clear hb
  obtain ⟨x0, x1, x2, x3⟩ := Hx5.out
  obtain ⟨a0, a1, a2, a3⟩ := Ha5.out
  obtain ⟨b0, b1, b2, b3⟩ := Hb5.out
  obtain ⟨s0, s1, s2, s3⟩ := Hs5.out
  go_wp2
  go_ret
  exact ⟨rfl, B5.out⟩
set_option maxHeartbeats 4000000 in
theorem cowRound_read_some (f n : Int) (W : World) (h : pgE true false false f = true) (hn : 1 ≤ n) : Calls Try.prog 7 #[ent true false false f, .int .i64 n] W fun e w' => e = .returned (.bool true) ∧ Below W.heap.size W w' := by
  have HA : Hid (pgE true false false f = true) := Lib.hid (pgE_of h)
  have H := Lib.hid h
  clear h
  have HN := Lib.hid hn
  have m1 : ¬ n < 1 := by omega
  go_enter Try.func7, Try.ntmps7
  have B0 : Hid (Below W.heap.size W (W.alloc (.cells #[.bool true, .bool false, .bool false, .int .i64 f] 23))) := Lib.hid ((Below.refl _ _).alloc (Nat.le_refl _) _)
  have Hx0 : Hid (EntAt (W.alloc (.cells #[.bool true, .bool false, .bool false, .int .i64 f] 23)) W.heap.size true false false f) := Lib.hid (EntAt.new ..)
  go_wp2_with fail
  refine (fork_read f _ H.out).mono ?_
  rintro e w1 ⟨rfl, hb⟩
  have B1 : Hid (Below W.heap.size W (w1.alloc (.cells #[.bool true, .bool false, .bool false, .int .i64 f] 23))) := Lib.hid ((below_step B0.out hb B0.out.size).alloc (below_step B0.out hb B0.out.size).size _)
  have Hx1 := Lib.hid ((Hx0.out.below hb).alloc (.cells #[.bool true, .bool false, .bool false, .int .i64 f] 23))
  have Ha1 : Hid (EntAt (w1.alloc (.cells #[.bool true, .bool false, .bool false, .int .i64 f] 23)) w1.heap.size true false false f) := Lib.hid (EntAt.new ..)
  clear hb
  obtain ⟨x0, x1, x2, x3⟩ := Hx1.out
  obtain ⟨a0, a1, a2, a3⟩ := Ha1.out
  go_wp2_with fail
  refine (write_read f 1 _ HA.out (by decide)).mono ?_
  rintro e w2 ⟨rfl, hb⟩
  clear x0 x1 x2 x3 a0 a1 a2 a3
  have B2 := Lib.hid (below_step B1.out hb B1.out.size)
  have Hx2 := Lib.hid ((Hx1.out.below hb))
  have Ha2 := Lib.hid ((Ha1.out.below hb))
  clear hb
  obtain ⟨x0, x1, x2, x3⟩ := Hx2.out
  obtain ⟨a0, a1, a2, a3⟩ := Ha2.out
  go_wp2_with fail
  refine (set_read false false f 1 _ HA.out (by decide)).mono ?_
  rintro e w3 ⟨rfl, hb⟩
  clear x0 x1 x2 x3 a0 a1 a2 a3
  have B3 : Hid (Below W.heap.size W (w3.alloc (.cells #[.bool true, .bool false, .bool false, .int .i64 f] 23))) := Lib.hid ((below_step B2.out hb B2.out.size).alloc (below_step B2.out hb B2.out.size).size _)
  have Hx3 := Lib.hid ((Hx2.out.below hb).alloc (.cells #[.bool true, .bool false, .bool false, .int .i64 f] 23))
  have Ha3 := Lib.hid ((Ha2.out.below hb).alloc (.cells #[.bool true, .bool false, .bool false, .int .i64 f] 23))
  have Hb3 : Hid (EntAt (w3.alloc (.cells #[.bool true, .bool false, .bool false, .int .i64 f] 23)) w3.heap.size true false false f) := Lib.hid (EntAt.new ..)
  clear hb
  obtain ⟨x0, x1, x2, x3⟩ := Hx3.out
  obtain ⟨a0, a1, a2, a3⟩ := Ha3.out
  obtain ⟨b0, b1, b2, b3⟩ := Hb3.out
  go_wp2_with fail
  refine (set_some false false f n _ _ H.out HN.out).mono ?_
  rintro e w4 ⟨y, z, rfl, hb⟩
  clear x0 x1 x2 x3 a0 a1 a2 a3 b0 b1 b2 b3
  have B4 : Hid (Below W.heap.size W (w4.alloc (.cells #[.bool true, .bool y, .bool z, .int .i64 f] 23))) := Lib.hid ((below_step B3.out hb B3.out.size).alloc (below_step B3.out hb B3.out.size).size _)
  have Hx4 := Lib.hid ((Hx3.out.below hb).alloc (.cells #[.bool true, .bool y, .bool z, .int .i64 f] 23))
  have Ha4 := Lib.hid ((Ha3.out.below hb).alloc (.cells #[.bool true, .bool y, .bool z, .int .i64 f] 23))
  have Hb4 := Lib.hid ((Hb3.out.below hb).alloc (.cells #[.bool true, .bool y, .bool z, .int .i64 f] 23))
  have Hs4 : Hid (EntAt (w4.alloc (.cells #[.bool true, .bool y, .bool z, .int .i64 f] 23)) w4.heap.size true y z f) := Lib.hid (EntAt.new ..)
  clear hb
  obtain ⟨x0, x1, x2, x3⟩ := Hx4.out
  obtain ⟨a0, a1, a2, a3⟩ := Ha4.out
  obtain ⟨b0, b1, b2, b3⟩ := Hb4.out
  obtain ⟨s0, s1, s2, s3⟩ := Hs4.out
  go_wp2_with fail
  refine (awake15 _).mono ?_
  rintro e w5 ⟨rfl, hb⟩
  clear x0 x1 x2 x3 a0 a1 a2 a3 b0 b1 b2 b3 s0 s1 s2 s3
  have B5 := Lib.hid (below_step B4.out hb B4.out.size)
  have Hx5 := Lib.hid ((Hx4.out.below hb))
  have Ha5 := Lib.hid ((Ha4.out.below hb))
  have Hb5 := Lib.hid ((Hb4.out.below hb))
  have Hs5 := Lib.hid ((Hs4.out.below hb))
  clear hb
  obtain ⟨x0, x1, x2, x3⟩ := Hx5.out
  obtain ⟨a0, a1, a2, a3⟩ := Ha5.out
  obtain ⟨b0, b1, b2, b3⟩ := Hb5.out
  obtain ⟨s0, s1, s2, s3⟩ := Hs5.out
  go_wp2
  go_ret
  exact ⟨rfl, B5.out⟩
set_option maxHeartbeats 4000000 in
theorem cowRound_write_few (f n : Int) (W : World) (h : pgE true true false f = true) (hn : n < 1) : Calls Try.prog 7 #[ent true true false f, .int .i64 n] W fun e w' => e = .returned (.bool true) ∧ Below W.heap.size W w' := by
  have HA : Hid (pgE true false true f = true) := Lib.hid (pgE_of h)
  have H := Lib.hid h
  clear h
  have HN := Lib.hid hn
  go_enter Try.func7, Try.ntmps7
  have B0 : Hid (Below W.heap.size W (W.alloc (.cells #[.bool true, .bool true, .bool false, .int .i64 f] 23))) := Lib.hid ((Below.refl _ _).alloc (Nat.le_refl _) _)
  have Hx0 : Hid (EntAt (W.alloc (.cells #[.bool true, .bool true, .bool false, .int .i64 f] 23)) W.heap.size true true false f) := Lib.hid (EntAt.new ..)
  go_wp2_with fail
  refine (fork_write f _ H.out).mono ?_
  rintro e w1 ⟨rfl, hb⟩
  have B1 : Hid (Below W.heap.size W (w1.alloc (.cells #[.bool true, .bool false, .bool true, .int .i64 f] 23))) := Lib.hid ((below_step B0.out hb B0.out.size).alloc (below_step B0.out hb B0.out.size).size _)
  have Hx1 := Lib.hid ((Hx0.out.below hb).alloc (.cells #[.bool true, .bool false, .bool true, .int .i64 f] 23))
  have Ha1 : Hid (EntAt (w1.alloc (.cells #[.bool true, .bool false, .bool true, .int .i64 f] 23)) w1.heap.size true false true f) := Lib.hid (EntAt.new ..)
  clear hb
  obtain ⟨x0, x1, x2, x3⟩ := Hx1.out
  obtain ⟨a0, a1, a2, a3⟩ := Ha1.out
  go_wp2_with fail
  refine (write_own f _ HA.out).mono ?_
  rintro e w2 ⟨rfl, hb⟩
  clear x0 x1 x2 x3 a0 a1 a2 a3
  have B2 := Lib.hid (below_step B1.out hb B1.out.size)
  have Hx2 := Lib.hid ((Hx1.out.below hb))
  have Ha2 := Lib.hid ((Ha1.out.below hb))
  clear hb
  obtain ⟨x0, x1, x2, x3⟩ := Hx2.out
  obtain ⟨a0, a1, a2, a3⟩ := Ha2.out
  go_wp2_with fail
  refine (set_write false true f _ HA.out).mono ?_
  rintro e w3 ⟨rfl, hb⟩
  clear x0 x1 x2 x3 a0 a1 a2 a3
  have B3 : Hid (Below W.heap.size W (w3.alloc (.cells #[.bool true, .bool true, .bool false, .int .i64 f] 23))) := Lib.hid ((below_step B2.out hb B2.out.size).alloc (below_step B2.out hb B2.out.size).size _)
  have Hx3 := Lib.hid ((Hx2.out.below hb).alloc (.cells #[.bool true, .bool true, .bool false, .int .i64 f] 23))
  have Ha3 := Lib.hid ((Ha2.out.below hb).alloc (.cells #[.bool true, .bool true, .bool false, .int .i64 f] 23))
  have Hb3 : Hid (EntAt (w3.alloc (.cells #[.bool true, .bool true, .bool false, .int .i64 f] 23)) w3.heap.size true true false f) := Lib.hid (EntAt.new ..)
  clear hb
  obtain ⟨x0, x1, x2, x3⟩ := Hx3.out
  obtain ⟨a0, a1, a2, a3⟩ := Ha3.out
  obtain ⟨b0, b1, b2, b3⟩ := Hb3.out
  go_wp2_with fail
  refine (set_some true false f 1 _ _ H.out (by decide)).mono ?_
  rintro e w4 ⟨y, z, rfl, hb⟩
  clear x0 x1 x2 x3 a0 a1 a2 a3 b0 b1 b2 b3
  have B4 : Hid (Below W.heap.size W (w4.alloc (.cells #[.bool true, .bool y, .bool z, .int .i64 f] 23))) := Lib.hid ((below_step B3.out hb B3.out.size).alloc (below_step B3.out hb B3.out.size).size _)
  have Hx4 := Lib.hid ((Hx3.out.below hb).alloc (.cells #[.bool true, .bool y, .bool z, .int .i64 f] 23))
  have Ha4 := Lib.hid ((Ha3.out.below hb).alloc (.cells #[.bool true, .bool y, .bool z, .int .i64 f] 23))
  have Hb4 := Lib.hid ((Hb3.out.below hb).alloc (.cells #[.bool true, .bool y, .bool z, .int .i64 f] 23))
  have Hs4 : Hid (EntAt (w4.alloc (.cells #[.bool true, .bool y, .bool z, .int .i64 f] 23)) w4.heap.size true y z f) := Lib.hid (EntAt.new ..)
  clear hb
  obtain ⟨x0, x1, x2, x3⟩ := Hx4.out
  obtain ⟨a0, a1, a2, a3⟩ := Ha4.out
  obtain ⟨b0, b1, b2, b3⟩ := Hb4.out
  obtain ⟨s0, s1, s2, s3⟩ := Hs4.out
  go_wp2_with fail
  refine (awake15 _).mono ?_
  rintro e w5 ⟨rfl, hb⟩
  clear x0 x1 x2 x3 a0 a1 a2 a3 b0 b1 b2 b3 s0 s1 s2 s3
  have B5 := Lib.hid (below_step B4.out hb B4.out.size)
  have Hx5 := Lib.hid ((Hx4.out.below hb))
  have Ha5 := Lib.hid ((Ha4.out.below hb))
  have Hb5 := Lib.hid ((Hb4.out.below hb))
  have Hs5 := Lib.hid ((Hs4.out.below hb))
  clear hb
  obtain ⟨x0, x1, x2, x3⟩ := Hx5.out
  obtain ⟨a0, a1, a2, a3⟩ := Ha5.out
  obtain ⟨b0, b1, b2, b3⟩ := Hb5.out
  obtain ⟨s0, s1, s2, s3⟩ := Hs5.out
  go_wp2
  go_ret
  exact ⟨rfl, B5.out⟩
set_option maxHeartbeats 4000000 in
theorem cowRound_write_some (f n : Int) (W : World) (h : pgE true true false f = true) (hn : 1 ≤ n) : Calls Try.prog 7 #[ent true true false f, .int .i64 n] W fun e w' => e = .returned (.bool true) ∧ Below W.heap.size W w' := by
  have HA : Hid (pgE true false true f = true) := Lib.hid (pgE_of h)
  have H := Lib.hid h
  clear h
  have HN := Lib.hid hn
  have m1 : ¬ n < 1 := by omega
  go_enter Try.func7, Try.ntmps7
  have B0 : Hid (Below W.heap.size W (W.alloc (.cells #[.bool true, .bool true, .bool false, .int .i64 f] 23))) := Lib.hid ((Below.refl _ _).alloc (Nat.le_refl _) _)
  have Hx0 : Hid (EntAt (W.alloc (.cells #[.bool true, .bool true, .bool false, .int .i64 f] 23)) W.heap.size true true false f) := Lib.hid (EntAt.new ..)
  go_wp2_with fail
  refine (fork_write f _ H.out).mono ?_
  rintro e w1 ⟨rfl, hb⟩
  have B1 : Hid (Below W.heap.size W (w1.alloc (.cells #[.bool true, .bool false, .bool true, .int .i64 f] 23))) := Lib.hid ((below_step B0.out hb B0.out.size).alloc (below_step B0.out hb B0.out.size).size _)
  have Hx1 := Lib.hid ((Hx0.out.below hb).alloc (.cells #[.bool true, .bool false, .bool true, .int .i64 f] 23))
  have Ha1 : Hid (EntAt (w1.alloc (.cells #[.bool true, .bool false, .bool true, .int .i64 f] 23)) w1.heap.size true false true f) := Lib.hid (EntAt.new ..)
  clear hb
  obtain ⟨x0, x1, x2, x3⟩ := Hx1.out
  obtain ⟨a0, a1, a2, a3⟩ := Ha1.out
  go_wp2_with fail
  refine (write_own f _ HA.out).mono ?_
  rintro e w2 ⟨rfl, hb⟩
  clear x0 x1 x2 x3 a0 a1 a2 a3
  have B2 := Lib.hid (below_step B1.out hb B1.out.size)
  have Hx2 := Lib.hid ((Hx1.out.below hb))
  have Ha2 := Lib.hid ((Ha1.out.below hb))
  clear hb
  obtain ⟨x0, x1, x2, x3⟩ := Hx2.out
  obtain ⟨a0, a1, a2, a3⟩ := Ha2.out
  go_wp2_with fail
  refine (set_write false true f _ HA.out).mono ?_
  rintro e w3 ⟨rfl, hb⟩
  clear x0 x1 x2 x3 a0 a1 a2 a3
  have B3 : Hid (Below W.heap.size W (w3.alloc (.cells #[.bool true, .bool true, .bool false, .int .i64 f] 23))) := Lib.hid ((below_step B2.out hb B2.out.size).alloc (below_step B2.out hb B2.out.size).size _)
  have Hx3 := Lib.hid ((Hx2.out.below hb).alloc (.cells #[.bool true, .bool true, .bool false, .int .i64 f] 23))
  have Ha3 := Lib.hid ((Ha2.out.below hb).alloc (.cells #[.bool true, .bool true, .bool false, .int .i64 f] 23))
  have Hb3 : Hid (EntAt (w3.alloc (.cells #[.bool true, .bool true, .bool false, .int .i64 f] 23)) w3.heap.size true true false f) := Lib.hid (EntAt.new ..)
  clear hb
  obtain ⟨x0, x1, x2, x3⟩ := Hx3.out
  obtain ⟨a0, a1, a2, a3⟩ := Ha3.out
  obtain ⟨b0, b1, b2, b3⟩ := Hb3.out
  go_wp2_with fail
  refine (set_some true false f n _ _ H.out HN.out).mono ?_
  rintro e w4 ⟨y, z, rfl, hb⟩
  clear x0 x1 x2 x3 a0 a1 a2 a3 b0 b1 b2 b3
  have B4 : Hid (Below W.heap.size W (w4.alloc (.cells #[.bool true, .bool y, .bool z, .int .i64 f] 23))) := Lib.hid ((below_step B3.out hb B3.out.size).alloc (below_step B3.out hb B3.out.size).size _)
  have Hx4 := Lib.hid ((Hx3.out.below hb).alloc (.cells #[.bool true, .bool y, .bool z, .int .i64 f] 23))
  have Ha4 := Lib.hid ((Ha3.out.below hb).alloc (.cells #[.bool true, .bool y, .bool z, .int .i64 f] 23))
  have Hb4 := Lib.hid ((Hb3.out.below hb).alloc (.cells #[.bool true, .bool y, .bool z, .int .i64 f] 23))
  have Hs4 : Hid (EntAt (w4.alloc (.cells #[.bool true, .bool y, .bool z, .int .i64 f] 23)) w4.heap.size true y z f) := Lib.hid (EntAt.new ..)
  clear hb
  obtain ⟨x0, x1, x2, x3⟩ := Hx4.out
  obtain ⟨a0, a1, a2, a3⟩ := Ha4.out
  obtain ⟨b0, b1, b2, b3⟩ := Hb4.out
  obtain ⟨s0, s1, s2, s3⟩ := Hs4.out
  go_wp2_with fail
  refine (awake15 _).mono ?_
  rintro e w5 ⟨rfl, hb⟩
  clear x0 x1 x2 x3 a0 a1 a2 a3 b0 b1 b2 b3 s0 s1 s2 s3
  have B5 := Lib.hid (below_step B4.out hb B4.out.size)
  have Hx5 := Lib.hid ((Hx4.out.below hb))
  have Ha5 := Lib.hid ((Ha4.out.below hb))
  have Hb5 := Lib.hid ((Hb4.out.below hb))
  have Hs5 := Lib.hid ((Hs4.out.below hb))
  clear hb
  obtain ⟨x0, x1, x2, x3⟩ := Hx5.out
  obtain ⟨a0, a1, a2, a3⟩ := Ha5.out
  obtain ⟨b0, b1, b2, b3⟩ := Hb5.out
  obtain ⟨s0, s1, s2, s3⟩ := Hs5.out
  go_wp2
  go_ret
  exact ⟨rfl, B5.out⟩
set_option maxHeartbeats 4000000 in
theorem cowRound_copy_few (f n : Int) (W : World) (h : pgE true false true f = true) (hn : n < 1) : Calls Try.prog 7 #[ent true false true f, .int .i64 n] W fun e w' => e = .returned (.bool true) ∧ Below W.heap.size W w' := by
  have HA : Hid (pgE true false true f = true) := Lib.hid (pgE_of h)
  have H := Lib.hid h
  clear h
  have HN := Lib.hid hn
  go_enter Try.func7, Try.ntmps7
  have B0 : Hid (Below W.heap.size W (W.alloc (.cells #[.bool true, .bool false, .bool true, .int .i64 f] 23))) := Lib.hid ((Below.refl _ _).alloc (Nat.le_refl _) _)
  have Hx0 : Hid (EntAt (W.alloc (.cells #[.bool true, .bool false, .bool true, .int .i64 f] 23)) W.heap.size true false true f) := Lib.hid (EntAt.new ..)
  go_wp2_with fail
  refine (fork_copy f _ H.out).mono ?_
  rintro e w1 ⟨rfl, hb⟩
  have B1 : Hid (Below W.heap.size W (w1.alloc (.cells #[.bool true, .bool false, .bool true, .int .i64 f] 23))) := Lib.hid ((below_step B0.out hb B0.out.size).alloc (below_step B0.out hb B0.out.size).size _)
  have Hx1 := Lib.hid ((Hx0.out.below hb).alloc (.cells #[.bool true, .bool false, .bool true, .int .i64 f] 23))
  have Ha1 : Hid (EntAt (w1.alloc (.cells #[.bool true, .bool false, .bool true, .int .i64 f] 23)) w1.heap.size true false true f) := Lib.hid (EntAt.new ..)
  clear hb
  obtain ⟨x0, x1, x2, x3⟩ := Hx1.out
  obtain ⟨a0, a1, a2, a3⟩ := Ha1.out
  go_wp2_with fail
  refine (write_own f _ HA.out).mono ?_
  rintro e w2 ⟨rfl, hb⟩
  clear x0 x1 x2 x3 a0 a1 a2 a3
  have B2 := Lib.hid (below_step B1.out hb B1.out.size)
  have Hx2 := Lib.hid ((Hx1.out.below hb))
  have Ha2 := Lib.hid ((Ha1.out.below hb))
  clear hb
  obtain ⟨x0, x1, x2, x3⟩ := Hx2.out
  obtain ⟨a0, a1, a2, a3⟩ := Ha2.out
  go_wp2_with fail
  refine (set_write false true f _ HA.out).mono ?_
  rintro e w3 ⟨rfl, hb⟩
  clear x0 x1 x2 x3 a0 a1 a2 a3
  have B3 : Hid (Below W.heap.size W (w3.alloc (.cells #[.bool true, .bool true, .bool false, .int .i64 f] 23))) := Lib.hid ((below_step B2.out hb B2.out.size).alloc (below_step B2.out hb B2.out.size).size _)
  have Hx3 := Lib.hid ((Hx2.out.below hb).alloc (.cells #[.bool true, .bool true, .bool false, .int .i64 f] 23))
  have Ha3 := Lib.hid ((Ha2.out.below hb).alloc (.cells #[.bool true, .bool true, .bool false, .int .i64 f] 23))
  have Hb3 : Hid (EntAt (w3.alloc (.cells #[.bool true, .bool true, .bool false, .int .i64 f] 23)) w3.heap.size true true false f) := Lib.hid (EntAt.new ..)
  clear hb
  obtain ⟨x0, x1, x2, x3⟩ := Hx3.out
  obtain ⟨a0, a1, a2, a3⟩ := Ha3.out
  obtain ⟨b0, b1, b2, b3⟩ := Hb3.out
  go_wp2_with fail
  refine (set_some false true f 1 _ _ H.out (by decide)).mono ?_
  rintro e w4 ⟨y, z, rfl, hb⟩
  clear x0 x1 x2 x3 a0 a1 a2 a3 b0 b1 b2 b3
  have B4 : Hid (Below W.heap.size W (w4.alloc (.cells #[.bool true, .bool y, .bool z, .int .i64 f] 23))) := Lib.hid ((below_step B3.out hb B3.out.size).alloc (below_step B3.out hb B3.out.size).size _)
  have Hx4 := Lib.hid ((Hx3.out.below hb).alloc (.cells #[.bool true, .bool y, .bool z, .int .i64 f] 23))
  have Ha4 := Lib.hid ((Ha3.out.below hb).alloc (.cells #[.bool true, .bool y, .bool z, .int .i64 f] 23))
  have Hb4 := Lib.hid ((Hb3.out.below hb).alloc (.cells #[.bool true, .bool y, .bool z, .int .i64 f] 23))
  have Hs4 : Hid (EntAt (w4.alloc (.cells #[.bool true, .bool y, .bool z, .int .i64 f] 23)) w4.heap.size true y z f) := Lib.hid (EntAt.new ..)
  clear hb
  obtain ⟨x0, x1, x2, x3⟩ := Hx4.out
  obtain ⟨a0, a1, a2, a3⟩ := Ha4.out
  obtain ⟨b0, b1, b2, b3⟩ := Hb4.out
  obtain ⟨s0, s1, s2, s3⟩ := Hs4.out
  go_wp2_with fail
  refine (awake15 _).mono ?_
  rintro e w5 ⟨rfl, hb⟩
  clear x0 x1 x2 x3 a0 a1 a2 a3 b0 b1 b2 b3 s0 s1 s2 s3
  have B5 := Lib.hid (below_step B4.out hb B4.out.size)
  have Hx5 := Lib.hid ((Hx4.out.below hb))
  have Ha5 := Lib.hid ((Ha4.out.below hb))
  have Hb5 := Lib.hid ((Hb4.out.below hb))
  have Hs5 := Lib.hid ((Hs4.out.below hb))
  clear hb
  obtain ⟨x0, x1, x2, x3⟩ := Hx5.out
  obtain ⟨a0, a1, a2, a3⟩ := Ha5.out
  obtain ⟨b0, b1, b2, b3⟩ := Hb5.out
  obtain ⟨s0, s1, s2, s3⟩ := Hs5.out
  go_wp2
  go_ret
  exact ⟨rfl, B5.out⟩
set_option maxHeartbeats 4000000 in
theorem cowRound_copy_some (f n : Int) (W : World) (h : pgE true false true f = true) (hn : 1 ≤ n) : Calls Try.prog 7 #[ent true false true f, .int .i64 n] W fun e w' => e = .returned (.bool true) ∧ Below W.heap.size W w' := by
  have HA : Hid (pgE true false true f = true) := Lib.hid (pgE_of h)
  have H := Lib.hid h
  clear h
  have HN := Lib.hid hn
  have m1 : ¬ n < 1 := by omega
  go_enter Try.func7, Try.ntmps7
  have B0 : Hid (Below W.heap.size W (W.alloc (.cells #[.bool true, .bool false, .bool true, .int .i64 f] 23))) := Lib.hid ((Below.refl _ _).alloc (Nat.le_refl _) _)
  have Hx0 : Hid (EntAt (W.alloc (.cells #[.bool true, .bool false, .bool true, .int .i64 f] 23)) W.heap.size true false true f) := Lib.hid (EntAt.new ..)
  go_wp2_with fail
  refine (fork_copy f _ H.out).mono ?_
  rintro e w1 ⟨rfl, hb⟩
  have B1 : Hid (Below W.heap.size W (w1.alloc (.cells #[.bool true, .bool false, .bool true, .int .i64 f] 23))) := Lib.hid ((below_step B0.out hb B0.out.size).alloc (below_step B0.out hb B0.out.size).size _)
  have Hx1 := Lib.hid ((Hx0.out.below hb).alloc (.cells #[.bool true, .bool false, .bool true, .int .i64 f] 23))
  have Ha1 : Hid (EntAt (w1.alloc (.cells #[.bool true, .bool false, .bool true, .int .i64 f] 23)) w1.heap.size true false true f) := Lib.hid (EntAt.new ..)
  clear hb
  obtain ⟨x0, x1, x2, x3⟩ := Hx1.out
  obtain ⟨a0, a1, a2, a3⟩ := Ha1.out
  go_wp2_with fail
  refine (write_own f _ HA.out).mono ?_
  rintro e w2 ⟨rfl, hb⟩
  clear x0 x1 x2 x3 a0 a1 a2 a3
  have B2 := Lib.hid (below_step B1.out hb B1.out.size)
  have Hx2 := Lib.hid ((Hx1.out.below hb))
  have Ha2 := Lib.hid ((Ha1.out.below hb))
  clear hb
  obtain ⟨x0, x1, x2, x3⟩ := Hx2.out
  obtain ⟨a0, a1, a2, a3⟩ := Ha2.out
  go_wp2_with fail
  refine (set_write false true f _ HA.out).mono ?_
  rintro e w3 ⟨rfl, hb⟩
  clear x0 x1 x2 x3 a0 a1 a2 a3
  have B3 : Hid (Below W.heap.size W (w3.alloc (.cells #[.bool true, .bool true, .bool false, .int .i64 f] 23))) := Lib.hid ((below_step B2.out hb B2.out.size).alloc (below_step B2.out hb B2.out.size).size _)
  have Hx3 := Lib.hid ((Hx2.out.below hb).alloc (.cells #[.bool true, .bool true, .bool false, .int .i64 f] 23))
  have Ha3 := Lib.hid ((Ha2.out.below hb).alloc (.cells #[.bool true, .bool true, .bool false, .int .i64 f] 23))
  have Hb3 : Hid (EntAt (w3.alloc (.cells #[.bool true, .bool true, .bool false, .int .i64 f] 23)) w3.heap.size true true false f) := Lib.hid (EntAt.new ..)
  clear hb
  obtain ⟨x0, x1, x2, x3⟩ := Hx3.out
  obtain ⟨a0, a1, a2, a3⟩ := Ha3.out
  obtain ⟨b0, b1, b2, b3⟩ := Hb3.out
  go_wp2_with fail
  refine (set_some false true f n _ _ H.out HN.out).mono ?_
  rintro e w4 ⟨y, z, rfl, hb⟩
  clear x0 x1 x2 x3 a0 a1 a2 a3 b0 b1 b2 b3
  have B4 : Hid (Below W.heap.size W (w4.alloc (.cells #[.bool true, .bool y, .bool z, .int .i64 f] 23))) := Lib.hid ((below_step B3.out hb B3.out.size).alloc (below_step B3.out hb B3.out.size).size _)
  have Hx4 := Lib.hid ((Hx3.out.below hb).alloc (.cells #[.bool true, .bool y, .bool z, .int .i64 f] 23))
  have Ha4 := Lib.hid ((Ha3.out.below hb).alloc (.cells #[.bool true, .bool y, .bool z, .int .i64 f] 23))
  have Hb4 := Lib.hid ((Hb3.out.below hb).alloc (.cells #[.bool true, .bool y, .bool z, .int .i64 f] 23))
  have Hs4 : Hid (EntAt (w4.alloc (.cells #[.bool true, .bool y, .bool z, .int .i64 f] 23)) w4.heap.size true y z f) := Lib.hid (EntAt.new ..)
  clear hb
  obtain ⟨x0, x1, x2, x3⟩ := Hx4.out
  obtain ⟨a0, a1, a2, a3⟩ := Ha4.out
  obtain ⟨b0, b1, b2, b3⟩ := Hb4.out
  obtain ⟨s0, s1, s2, s3⟩ := Hs4.out
  go_wp2_with fail
  refine (awake15 _).mono ?_
  rintro e w5 ⟨rfl, hb⟩
  clear x0 x1 x2 x3 a0 a1 a2 a3 b0 b1 b2 b3 s0 s1 s2 s3
  have B5 := Lib.hid (below_step B4.out hb B4.out.size)
  have Hx5 := Lib.hid ((Hx4.out.below hb))
  have Ha5 := Lib.hid ((Ha4.out.below hb))
  have Hb5 := Lib.hid ((Hb4.out.below hb))
  have Hs5 := Lib.hid ((Hs4.out.below hb))
  clear hb
  obtain ⟨x0, x1, x2, x3⟩ := Hx5.out
  obtain ⟨a0, a1, a2, a3⟩ := Ha5.out
  obtain ⟨b0, b1, b2, b3⟩ := Hb5.out
  obtain ⟨s0, s1, s2, s3⟩ := Hs5.out
  go_wp2
  go_ret
  exact ⟨rfl, B5.out⟩
theorem cowRound_walk (p w c : Bool) (f n : Int) (W : World) (_hf : -9223372036854775808 ≤ f ∧ f ≤ 9223372036854775807) (_hn : -9223372036854775808 ≤ n ∧ n ≤ 9223372036854775807) : Calls Try.prog 7 #[ent p w c f, .int .i64 n] W fun e w' => e = .returned (.bool true) ∧ Below W.heap.size W w' := by
  cases h : pgE p w c f
  · exact cowRound_no p w c f n W h
  · obtain ⟨rfl, hwc, -, -⟩ := pgE_yes h
    cases w
    · cases c
      · by_cases hn : n < 1
        · exact cowRound_read_few f n W h hn
        · exact cowRound_read_some f n W h (by omega)
      · by_cases hn : n < 1
        · exact cowRound_copy_few f n W h hn
        · exact cowRound_copy_some f n W h (by omega)
    · cases c
      · by_cases hn : n < 1
        · exact cowRound_write_few f n W h hn
        · exact cowRound_write_some f n W h (by omega)
      · simp at hwc
end Go.Proofs.Ytgalcafpkfakdaa
