/- The walks of CowNever and CowRound. No condition. -/
import Derived.Test.YtgalcafpkfakdaaE4
namespace Go.Proofs.Ytgalcafpkfakdaa
open Go.RowKit
set_option maxRecDepth 100000

theorem pgE_of {w c x y : Bool} {f : Int} (h : pgE true w c f = true) (hxy : (y && x) = false := by rfl) : pgE true x y f = true := by
  obtain ⟨-, -, h0, h1⟩ := pgE_yes h
  unfold pgE okE
  rw [hxy]
  simp
  omega
set_option maxHeartbeats 2000000 in
theorem cowNever_no (p w c : Bool) (f n : Int) (x : Bool) (W : World) (h : pgE p w c f = false) : Calls Try.prog 6 #[ent p w c f, .int .i64 n, .bool x] W fun e w' => e = .returned (.bool true) ∧ Below W.heap.size W w' := by
  have H := Lib.hid h
  clear h
  go_enter Try.func6, Try.ntmps6
  have B0 : Hid (Below W.heap.size W (W.alloc (.cells #[.bool p, .bool w, .bool c, .int .i64 f] 23))) := Lib.hid ((Below.refl _ _).alloc (Nat.le_refl _) _)
  have Hx0 : Hid (EntAt (W.alloc (.cells #[.bool p, .bool w, .bool c, .int .i64 f] 23)) W.heap.size p w c f) := Lib.hid (EntAt.new ..)
  go_wp2_with fail
  refine (fork_no p w c f _ H.out).mono ?_
  rintro e w1 ⟨rfl, hb⟩
  have B1 : Hid (Below W.heap.size W (w1.alloc (.cells #[.bool false, .bool false, .bool false, .int .i64 0] 23))) := Lib.hid ((below_step B0.out hb B0.out.size).alloc (below_step B0.out hb B0.out.size).size _)
  have Hx1 := Lib.hid ((Hx0.out.below hb).alloc (.cells #[.bool false, .bool false, .bool false, .int .i64 0] 23))
  have Ha1 : Hid (EntAt (w1.alloc (.cells #[.bool false, .bool false, .bool false, .int .i64 0] 23)) w1.heap.size false false false 0) := Lib.hid (EntAt.new ..)
  clear hb
  obtain ⟨x0, x1, x2, x3⟩ := Hx1.out
  obtain ⟨a0, a1, a2, a3⟩ := Ha1.out
  go_wp2_with fail
  refine (awake15 _).mono ?_
  rintro e w2 ⟨rfl, hb⟩
  clear x0 x1 x2 x3 a0 a1 a2 a3
  have B2 := Lib.hid (below_step B1.out hb B1.out.size)
  have Hx2 := Lib.hid ((Hx1.out.below hb))
  have Ha2 := Lib.hid ((Ha1.out.below hb))
  clear hb
  obtain ⟨x0, x1, x2, x3⟩ := Hx2.out
  obtain ⟨a0, a1, a2, a3⟩ := Ha2.out
  go_wp2
  go_ret
  exact ⟨rfl, B2.out⟩
set_option maxHeartbeats 2000000 in
theorem cowNever_read_few (f n : Int) (x : Bool) (W : World) (h : pgE true false false f = true) (hn : n < 1) : Calls Try.prog 6 #[ent true false false f, .int .i64 n, .bool x] W fun e w' => e = .returned (.bool true) ∧ Below W.heap.size W w' := by
  have HA : Hid (pgE true false false f = true) := Lib.hid (pgE_of h)
  have HW : Hid (pgE true true false f = true) := Lib.hid (pgE_of h)
  have HC : Hid (pgE true false true f = true) := Lib.hid (pgE_of h)
  have HR : Hid (pgE true false false f = true) := Lib.hid (pgE_of h)
  have H := Lib.hid h
  clear h
  have HN := Lib.hid hn
  have m3 : n ≤ 1 := by omega
  go_enter Try.func6, Try.ntmps6
  have B0 : Hid (Below W.heap.size W (W.alloc (.cells #[.bool true, .bool false, .bool false, .int .i64 f] 23))) := Lib.hid ((Below.refl _ _).alloc (Nat.le_refl _) _)
  have Hx0 : Hid (EntAt (W.alloc (.cells #[.bool true, .bool false, .bool false, .int .i64 f] 23)) W.heap.size true false false f) := Lib.hid (EntAt.new ..)
  go_wp2_with fail
  refine (fork_read f _ H.out).mono ?_
  rintro e w1 ⟨rfl, hb⟩
  have B1 : Hid (Below W.heap.size W (w1.alloc (.cells #[.bool true, .bool false, .bool false, .int .i64 f] 23))) := Lib.hid ((below_step B0.out hb B0.out.size).alloc (below_step B0.out hb B0.out.size).size _)
  have Hx1 := Lib.hid ((Hx0.out.below hb).alloc (.cells #[.bool true, .bool false, .bool false, .int .i64 f] 23))
  have Ha1 : Hid (EntAt (w1.alloc (.cells #[.bool true, .bool false, .bool false, .int .i64 f] 23)) w1.heap.size true false false f) := Lib.hid (EntAt.new ..)
  clear hb
  obtain ⟨x0, x1, x2, x3⟩ := Hx1.out
  obtain ⟨a0, a1, a2, a3⟩ := Ha1.out
  go_wp2_with fail
  refine (fork_read f _ HA.out).mono ?_
  rintro e w2 ⟨rfl, hb⟩
  clear x0 x1 x2 x3 a0 a1 a2 a3
  have B2 : Hid (Below W.heap.size W (w2.alloc (.cells #[.bool true, .bool false, .bool false, .int .i64 f] 23))) := Lib.hid ((below_step B1.out hb B1.out.size).alloc (below_step B1.out hb B1.out.size).size _)
  have Hx2 := Lib.hid ((Hx1.out.below hb).alloc (.cells #[.bool true, .bool false, .bool false, .int .i64 f] 23))
  have Ha2 := Lib.hid ((Ha1.out.below hb).alloc (.cells #[.bool true, .bool false, .bool false, .int .i64 f] 23))
  have Hb2 : Hid (EntAt (w2.alloc (.cells #[.bool true, .bool false, .bool false, .int .i64 f] 23)) w2.heap.size true false false f) := Lib.hid (EntAt.new ..)
  clear hb
  obtain ⟨x0, x1, x2, x3⟩ := Hx2.out
  obtain ⟨a0, a1, a2, a3⟩ := Ha2.out
  obtain ⟨b0, b1, b2, b3⟩ := Hb2.out
  go_wp2_with fail
  refine (write_read f 1 _ HA.out (by decide)).mono ?_
  rintro e w3 ⟨rfl, hb⟩
  clear x0 x1 x2 x3 a0 a1 a2 a3 b0 b1 b2 b3
  have B3 := Lib.hid (below_step B2.out hb B2.out.size)
  have Hx3 := Lib.hid ((Hx2.out.below hb))
  have Ha3 := Lib.hid ((Ha2.out.below hb))
  have Hb3 := Lib.hid ((Hb2.out.below hb))
  clear hb
  obtain ⟨x0, x1, x2, x3⟩ := Hx3.out
  obtain ⟨a0, a1, a2, a3⟩ := Ha3.out
  obtain ⟨b0, b1, b2, b3⟩ := Hb3.out
  go_wp2_with fail
  refine (set_few true false false f n x _ H.out HN.out).mono ?_
  rintro e w4 ⟨rfl, hb⟩
  clear x0 x1 x2 x3 a0 a1 a2 a3 b0 b1 b2 b3
  have B4 : Hid (Below W.heap.size W (w4.alloc (.cells #[.bool false, .bool false, .bool false, .int .i64 0] 23))) := Lib.hid ((below_step B3.out hb B3.out.size).alloc (below_step B3.out hb B3.out.size).size _)
  have Hx4 := Lib.hid ((Hx3.out.below hb).alloc (.cells #[.bool false, .bool false, .bool false, .int .i64 0] 23))
  have Ha4 := Lib.hid ((Ha3.out.below hb).alloc (.cells #[.bool false, .bool false, .bool false, .int .i64 0] 23))
  have Hb4 := Lib.hid ((Hb3.out.below hb).alloc (.cells #[.bool false, .bool false, .bool false, .int .i64 0] 23))
  have Hs4 : Hid (EntAt (w4.alloc (.cells #[.bool false, .bool false, .bool false, .int .i64 0] 23)) w4.heap.size false false false 0) := Lib.hid (EntAt.new ..)
  clear hb
  obtain ⟨x0, x1, x2, x3⟩ := Hx4.out
  obtain ⟨a0, a1, a2, a3⟩ := Ha4.out
  obtain ⟨b0, b1, b2, b3⟩ := Hb4.out
  obtain ⟨s0, s1, s2, s3⟩ := Hs4.out
  go_wp2_with fail
  refine (awake15 _).mono ?_
  rintro e w5 ⟨rfl, hb⟩
  clear x0 x1 x2 x3 a0 a1 a2 a3 b0 b1 b2 b3 s0 s1 s2 s3
  have B5 := Lib.hid (below_step B4.out hb B4.out.size)
  have Hx5 := Lib.hid ((Hx4.out.below hb))
  have Ha5 := Lib.hid ((Ha4.out.below hb))
  have Hb5 := Lib.hid ((Hb4.out.below hb))
  have Hs5 := Lib.hid ((Hs4.out.below hb))
  clear hb
  obtain ⟨x0, x1, x2, x3⟩ := Hx5.out
  obtain ⟨a0, a1, a2, a3⟩ := Ha5.out
  obtain ⟨b0, b1, b2, b3⟩ := Hb5.out
  obtain ⟨s0, s1, s2, s3⟩ := Hs5.out
  go_wp2
  go_ret
  exact ⟨rfl, B5.out⟩
set_option maxHeartbeats 4000000 in
theorem cowNever_read_onef (f : Int) (W : World) (h : pgE true false false f = true) : Calls Try.prog 6 #[ent true false false f, .int .i64 1, .bool false] W fun e w' => e = .returned (.bool true) ∧ Below W.heap.size W w' := by
  have HA : Hid (pgE true false false f = true) := Lib.hid (pgE_of h)
  have HW : Hid (pgE true true false f = true) := Lib.hid (pgE_of h)
  have HC : Hid (pgE true false true f = true) := Lib.hid (pgE_of h)
  have HR : Hid (pgE true false false f = true) := Lib.hid (pgE_of h)
  have H := Lib.hid h
  clear h
  go_enter Try.func6, Try.ntmps6
  have B0 : Hid (Below W.heap.size W (W.alloc (.cells #[.bool true, .bool false, .bool false, .int .i64 f] 23))) := Lib.hid ((Below.refl _ _).alloc (Nat.le_refl _) _)
  have Hx0 : Hid (EntAt (W.alloc (.cells #[.bool true, .bool false, .bool false, .int .i64 f] 23)) W.heap.size true false false f) := Lib.hid (EntAt.new ..)
  go_wp2_with fail
  refine (fork_read f _ H.out).mono ?_
  rintro e w1 ⟨rfl, hb⟩
  have B1 : Hid (Below W.heap.size W (w1.alloc (.cells #[.bool true, .bool false, .bool false, .int .i64 f] 23))) := Lib.hid ((below_step B0.out hb B0.out.size).alloc (below_step B0.out hb B0.out.size).size _)
  have Hx1 := Lib.hid ((Hx0.out.below hb).alloc (.cells #[.bool true, .bool false, .bool false, .int .i64 f] 23))
  have Ha1 : Hid (EntAt (w1.alloc (.cells #[.bool true, .bool false, .bool false, .int .i64 f] 23)) w1.heap.size true false false f) := Lib.hid (EntAt.new ..)
  clear hb
  obtain ⟨x0, x1, x2, x3⟩ := Hx1.out
  obtain ⟨a0, a1, a2, a3⟩ := Ha1.out
  go_wp2_with fail
  refine (fork_read f _ HA.out).mono ?_
  rintro e w2 ⟨rfl, hb⟩
  clear x0 x1 x2 x3 a0 a1 a2 a3
  have B2 : Hid (Below W.heap.size W (w2.alloc (.cells #[.bool true, .bool false, .bool false, .int .i64 f] 23))) := Lib.hid ((below_step B1.out hb B1.out.size).alloc (below_step B1.out hb B1.out.size).size _)
  have Hx2 := Lib.hid ((Hx1.out.below hb).alloc (.cells #[.bool true, .bool false, .bool false, .int .i64 f] 23))
  have Ha2 := Lib.hid ((Ha1.out.below hb).alloc (.cells #[.bool true, .bool false, .bool false, .int .i64 f] 23))
  have Hb2 : Hid (EntAt (w2.alloc (.cells #[.bool true, .bool false, .bool false, .int .i64 f] 23)) w2.heap.size true false false f) := Lib.hid (EntAt.new ..)
  clear hb
  obtain ⟨x0, x1, x2, x3⟩ := Hx2.out
  obtain ⟨a0, a1, a2, a3⟩ := Ha2.out
  obtain ⟨b0, b1, b2, b3⟩ := Hb2.out
  go_wp2_with fail
  refine (write_read f 1 _ HA.out (by decide)).mono ?_
  rintro e w3 ⟨rfl, hb⟩
  clear x0 x1 x2 x3 a0 a1 a2 a3 b0 b1 b2 b3
  have B3 := Lib.hid (below_step B2.out hb B2.out.size)
  have Hx3 := Lib.hid ((Hx2.out.below hb))
  have Ha3 := Lib.hid ((Ha2.out.below hb))
  have Hb3 := Lib.hid ((Hb2.out.below hb))
  clear hb
  obtain ⟨x0, x1, x2, x3⟩ := Hx3.out
  obtain ⟨a0, a1, a2, a3⟩ := Ha3.out
  obtain ⟨b0, b1, b2, b3⟩ := Hb3.out
  go_wp2_with fail
  refine (set_read false false f 1 _ H.out (by decide)).mono ?_
  rintro e w4 ⟨rfl, hb⟩
  clear x0 x1 x2 x3 a0 a1 a2 a3 b0 b1 b2 b3
  have B4 : Hid (Below W.heap.size W (w4.alloc (.cells #[.bool true, .bool false, .bool false, .int .i64 f] 23))) := Lib.hid ((below_step B3.out hb B3.out.size).alloc (below_step B3.out hb B3.out.size).size _)
  have Hx4 := Lib.hid ((Hx3.out.below hb).alloc (.cells #[.bool true, .bool false, .bool false, .int .i64 f] 23))
  have Ha4 := Lib.hid ((Ha3.out.below hb).alloc (.cells #[.bool true, .bool false, .bool false, .int .i64 f] 23))
  have Hb4 := Lib.hid ((Hb3.out.below hb).alloc (.cells #[.bool true, .bool false, .bool false, .int .i64 f] 23))
  have Hs4 : Hid (EntAt (w4.alloc (.cells #[.bool true, .bool false, .bool false, .int .i64 f] 23)) w4.heap.size true false false f) := Lib.hid (EntAt.new ..)
  clear hb
  obtain ⟨x0, x1, x2, x3⟩ := Hx4.out
  obtain ⟨a0, a1, a2, a3⟩ := Ha4.out
  obtain ⟨b0, b1, b2, b3⟩ := Hb4.out
  obtain ⟨s0, s1, s2, s3⟩ := Hs4.out
  go_wp2_with fail
  refine (write_read f 1 _ HR.out (by decide)).mono ?_
  rintro e w5 ⟨rfl, hb⟩
  clear x0 x1 x2 x3 a0 a1 a2 a3 b0 b1 b2 b3 s0 s1 s2 s3
  have B5 := Lib.hid (below_step B4.out hb B4.out.size)
  have Hx5 := Lib.hid ((Hx4.out.below hb))
  have Ha5 := Lib.hid ((Ha4.out.below hb))
  have Hb5 := Lib.hid ((Hb4.out.below hb))
  have Hs5 := Lib.hid ((Hs4.out.below hb))
  clear hb
  obtain ⟨x0, x1, x2, x3⟩ := Hx5.out
  obtain ⟨a0, a1, a2, a3⟩ := Ha5.out
  obtain ⟨b0, b1, b2, b3⟩ := Hb5.out
  obtain ⟨s0, s1, s2, s3⟩ := Hs5.out
  go_wp2_with fail
  refine (awake15 _).mono ?_
  rintro e w6 ⟨rfl, hb⟩
  clear x0 x1 x2 x3 a0 a1 a2 a3 b0 b1 b2 b3 s0 s1 s2 s3
  have B6 := Lib.hid (below_step B5.out hb B5.out.size)
  have Hx6 := Lib.hid ((Hx5.out.below hb))
  have Ha6 := Lib.hid ((Ha5.out.below hb))
  have Hb6 := Lib.hid ((Hb5.out.below hb))
  have Hs6 := Lib.hid ((Hs5.out.below hb))
  clear hb
  obtain ⟨x0, x1, x2, x3⟩ := Hx6.out
  obtain ⟨a0, a1, a2, a3⟩ := Ha6.out
  obtain ⟨b0, b1, b2, b3⟩ := Hb6.out
  obtain ⟨s0, s1, s2, s3⟩ := Hs6.out
  go_wp2
  go_ret
  exact ⟨rfl, B6.out⟩
set_option maxHeartbeats 4000000 in
theorem cowNever_read_onet (f : Int) (W : World) (h : pgE true false false f = true) : Calls Try.prog 6 #[ent true false false f, .int .i64 1, .bool true] W fun e w' => e = .returned (.bool true) ∧ Below W.heap.size W w' := by
  have HA : Hid (pgE true false false f = true) := Lib.hid (pgE_of h)
  have HW : Hid (pgE true true false f = true) := Lib.hid (pgE_of h)
  have HC : Hid (pgE true false true f = true) := Lib.hid (pgE_of h)
  have HR : Hid (pgE true false false f = true) := Lib.hid (pgE_of h)
  have H := Lib.hid h
  clear h
  go_enter Try.func6, Try.ntmps6
  have B0 : Hid (Below W.heap.size W (W.alloc (.cells #[.bool true, .bool false, .bool false, .int .i64 f] 23))) := Lib.hid ((Below.refl _ _).alloc (Nat.le_refl _) _)
  have Hx0 : Hid (EntAt (W.alloc (.cells #[.bool true, .bool false, .bool false, .int .i64 f] 23)) W.heap.size true false false f) := Lib.hid (EntAt.new ..)
  go_wp2_with fail
  refine (fork_read f _ H.out).mono ?_
  rintro e w1 ⟨rfl, hb⟩
  have B1 : Hid (Below W.heap.size W (w1.alloc (.cells #[.bool true, .bool false, .bool false, .int .i64 f] 23))) := Lib.hid ((below_step B0.out hb B0.out.size).alloc (below_step B0.out hb B0.out.size).size _)
  have Hx1 := Lib.hid ((Hx0.out.below hb).alloc (.cells #[.bool true, .bool false, .bool false, .int .i64 f] 23))
  have Ha1 : Hid (EntAt (w1.alloc (.cells #[.bool true, .bool false, .bool false, .int .i64 f] 23)) w1.heap.size true false false f) := Lib.hid (EntAt.new ..)
  clear hb
  obtain ⟨x0, x1, x2, x3⟩ := Hx1.out
  obtain ⟨a0, a1, a2, a3⟩ := Ha1.out
  go_wp2_with fail
  refine (fork_read f _ HA.out).mono ?_
  rintro e w2 ⟨rfl, hb⟩
  clear x0 x1 x2 x3 a0 a1 a2 a3
  have B2 : Hid (Below W.heap.size W (w2.alloc (.cells #[.bool true, .bool false, .bool false, .int .i64 f] 23))) := Lib.hid ((below_step B1.out hb B1.out.size).alloc (below_step B1.out hb B1.out.size).size _)
  have Hx2 := Lib.hid ((Hx1.out.below hb).alloc (.cells #[.bool true, .bool false, .bool false, .int .i64 f] 23))
  have Ha2 := Lib.hid ((Ha1.out.below hb).alloc (.cells #[.bool true, .bool false, .bool false, .int .i64 f] 23))
  have Hb2 : Hid (EntAt (w2.alloc (.cells #[.bool true, .bool false, .bool false, .int .i64 f] 23)) w2.heap.size true false false f) := Lib.hid (EntAt.new ..)
  clear hb
  obtain ⟨x0, x1, x2, x3⟩ := Hx2.out
  obtain ⟨a0, a1, a2, a3⟩ := Ha2.out
  obtain ⟨b0, b1, b2, b3⟩ := Hb2.out
  go_wp2_with fail
  refine (write_read f 1 _ HA.out (by decide)).mono ?_
  rintro e w3 ⟨rfl, hb⟩
  clear x0 x1 x2 x3 a0 a1 a2 a3 b0 b1 b2 b3
  have B3 := Lib.hid (below_step B2.out hb B2.out.size)
  have Hx3 := Lib.hid ((Hx2.out.below hb))
  have Ha3 := Lib.hid ((Ha2.out.below hb))
  have Hb3 := Lib.hid ((Hb2.out.below hb))
  clear hb
  obtain ⟨x0, x1, x2, x3⟩ := Hx3.out
  obtain ⟨a0, a1, a2, a3⟩ := Ha3.out
  obtain ⟨b0, b1, b2, b3⟩ := Hb3.out
  go_wp2_with fail
  refine (set_write false false f _ H.out).mono ?_
  rintro e w4 ⟨rfl, hb⟩
  clear x0 x1 x2 x3 a0 a1 a2 a3 b0 b1 b2 b3
  have B4 : Hid (Below W.heap.size W (w4.alloc (.cells #[.bool true, .bool true, .bool false, .int .i64 f] 23))) := Lib.hid ((below_step B3.out hb B3.out.size).alloc (below_step B3.out hb B3.out.size).size _)
  have Hx4 := Lib.hid ((Hx3.out.below hb).alloc (.cells #[.bool true, .bool true, .bool false, .int .i64 f] 23))
  have Ha4 := Lib.hid ((Ha3.out.below hb).alloc (.cells #[.bool true, .bool true, .bool false, .int .i64 f] 23))
  have Hb4 := Lib.hid ((Hb3.out.below hb).alloc (.cells #[.bool true, .bool true, .bool false, .int .i64 f] 23))
  have Hs4 : Hid (EntAt (w4.alloc (.cells #[.bool true, .bool true, .bool false, .int .i64 f] 23)) w4.heap.size true true false f) := Lib.hid (EntAt.new ..)
  clear hb
  obtain ⟨x0, x1, x2, x3⟩ := Hx4.out
  obtain ⟨a0, a1, a2, a3⟩ := Ha4.out
  obtain ⟨b0, b1, b2, b3⟩ := Hb4.out
  obtain ⟨s0, s1, s2, s3⟩ := Hs4.out
  go_wp2_with fail
  refine (write_write f 1 _ HW.out (by decide)).mono ?_
  rintro e w5 ⟨rfl, hb⟩
  clear x0 x1 x2 x3 a0 a1 a2 a3 b0 b1 b2 b3 s0 s1 s2 s3
  have B5 := Lib.hid (below_step B4.out hb B4.out.size)
  have Hx5 := Lib.hid ((Hx4.out.below hb))
  have Ha5 := Lib.hid ((Ha4.out.below hb))
  have Hb5 := Lib.hid ((Hb4.out.below hb))
  have Hs5 := Lib.hid ((Hs4.out.below hb))
  clear hb
  obtain ⟨x0, x1, x2, x3⟩ := Hx5.out
  obtain ⟨a0, a1, a2, a3⟩ := Ha5.out
  obtain ⟨b0, b1, b2, b3⟩ := Hb5.out
  obtain ⟨s0, s1, s2, s3⟩ := Hs5.out
  go_wp2_with fail
  refine (awake15 _).mono ?_
  rintro e w6 ⟨rfl, hb⟩
  clear x0 x1 x2 x3 a0 a1 a2 a3 b0 b1 b2 b3 s0 s1 s2 s3
  have B6 := Lib.hid (below_step B5.out hb B5.out.size)
  have Hx6 := Lib.hid ((Hx5.out.below hb))
  have Ha6 := Lib.hid ((Ha5.out.below hb))
  have Hb6 := Lib.hid ((Hb5.out.below hb))
  have Hs6 := Lib.hid ((Hs5.out.below hb))
  clear hb
  obtain ⟨x0, x1, x2, x3⟩ := Hx6.out
  obtain ⟨a0, a1, a2, a3⟩ := Ha6.out
  obtain ⟨b0, b1, b2, b3⟩ := Hb6.out
  obtain ⟨s0, s1, s2, s3⟩ := Hs6.out
  go_wp2
  go_ret
  exact ⟨rfl, B6.out⟩
set_option maxHeartbeats 4000000 in
theorem cowNever_read_manyf (f n : Int) (W : World) (h : pgE true false false f = true) (hn : 1 < n) : Calls Try.prog 6 #[ent true false false f, .int .i64 n, .bool false] W fun e w' => e = .returned (.bool true) ∧ Below W.heap.size W w' := by
  have HA : Hid (pgE true false false f = true) := Lib.hid (pgE_of h)
  have HW : Hid (pgE true true false f = true) := Lib.hid (pgE_of h)
  have HC : Hid (pgE true false true f = true) := Lib.hid (pgE_of h)
  have HR : Hid (pgE true false false f = true) := Lib.hid (pgE_of h)
  have H := Lib.hid h
  clear h
  have HN := Lib.hid hn
  have HM : Hid (1 ≤ n) := Lib.hid (by omega)
  have m1 : ¬ n < 1 := by omega
  have m2 : ¬ n ≤ 1 := by omega
  go_enter Try.func6, Try.ntmps6
  have B0 : Hid (Below W.heap.size W (W.alloc (.cells #[.bool true, .bool false, .bool false, .int .i64 f] 23))) := Lib.hid ((Below.refl _ _).alloc (Nat.le_refl _) _)
  have Hx0 : Hid (EntAt (W.alloc (.cells #[.bool true, .bool false, .bool false, .int .i64 f] 23)) W.heap.size true false false f) := Lib.hid (EntAt.new ..)
  go_wp2_with fail
  refine (fork_read f _ H.out).mono ?_
  rintro e w1 ⟨rfl, hb⟩
  have B1 : Hid (Below W.heap.size W (w1.alloc (.cells #[.bool true, .bool false, .bool false, .int .i64 f] 23))) := Lib.hid ((below_step B0.out hb B0.out.size).alloc (below_step B0.out hb B0.out.size).size _)
  have Hx1 := Lib.hid ((Hx0.out.below hb).alloc (.cells #[.bool true, .bool false, .bool false, .int .i64 f] 23))
  have Ha1 : Hid (EntAt (w1.alloc (.cells #[.bool true, .bool false, .bool false, .int .i64 f] 23)) w1.heap.size true false false f) := Lib.hid (EntAt.new ..)
  clear hb
  obtain ⟨x0, x1, x2, x3⟩ := Hx1.out
  obtain ⟨a0, a1, a2, a3⟩ := Ha1.out
  go_wp2_with fail
  refine (fork_read f _ HA.out).mono ?_
  rintro e w2 ⟨rfl, hb⟩
  clear x0 x1 x2 x3 a0 a1 a2 a3
  have B2 : Hid (Below W.heap.size W (w2.alloc (.cells #[.bool true, .bool false, .bool false, .int .i64 f] 23))) := Lib.hid ((below_step B1.out hb B1.out.size).alloc (below_step B1.out hb B1.out.size).size _)
  have Hx2 := Lib.hid ((Hx1.out.below hb).alloc (.cells #[.bool true, .bool false, .bool false, .int .i64 f] 23))
  have Ha2 := Lib.hid ((Ha1.out.below hb).alloc (.cells #[.bool true, .bool false, .bool false, .int .i64 f] 23))
  have Hb2 : Hid (EntAt (w2.alloc (.cells #[.bool true, .bool false, .bool false, .int .i64 f] 23)) w2.heap.size true false false f) := Lib.hid (EntAt.new ..)
  clear hb
  obtain ⟨x0, x1, x2, x3⟩ := Hx2.out
  obtain ⟨a0, a1, a2, a3⟩ := Ha2.out
  obtain ⟨b0, b1, b2, b3⟩ := Hb2.out
  go_wp2_with fail
  refine (write_read f n _ HA.out HM.out).mono ?_
  rintro e w3 ⟨rfl, hb⟩
  clear x0 x1 x2 x3 a0 a1 a2 a3 b0 b1 b2 b3
  have B3 := Lib.hid (below_step B2.out hb B2.out.size)
  have Hx3 := Lib.hid ((Hx2.out.below hb))
  have Ha3 := Lib.hid ((Ha2.out.below hb))
  have Hb3 := Lib.hid ((Hb2.out.below hb))
  clear hb
  obtain ⟨x0, x1, x2, x3⟩ := Hx3.out
  obtain ⟨a0, a1, a2, a3⟩ := Ha3.out
  obtain ⟨b0, b1, b2, b3⟩ := Hb3.out
  go_wp2_with fail
  refine (set_read false false f n _ H.out HM.out).mono ?_
  rintro e w4 ⟨rfl, hb⟩
  clear x0 x1 x2 x3 a0 a1 a2 a3 b0 b1 b2 b3
  have B4 : Hid (Below W.heap.size W (w4.alloc (.cells #[.bool true, .bool false, .bool false, .int .i64 f] 23))) := Lib.hid ((below_step B3.out hb B3.out.size).alloc (below_step B3.out hb B3.out.size).size _)
  have Hx4 := Lib.hid ((Hx3.out.below hb).alloc (.cells #[.bool true, .bool false, .bool false, .int .i64 f] 23))
  have Ha4 := Lib.hid ((Ha3.out.below hb).alloc (.cells #[.bool true, .bool false, .bool false, .int .i64 f] 23))
  have Hb4 := Lib.hid ((Hb3.out.below hb).alloc (.cells #[.bool true, .bool false, .bool false, .int .i64 f] 23))
  have Hs4 : Hid (EntAt (w4.alloc (.cells #[.bool true, .bool false, .bool false, .int .i64 f] 23)) w4.heap.size true false false f) := Lib.hid (EntAt.new ..)
  clear hb
  obtain ⟨x0, x1, x2, x3⟩ := Hx4.out
  obtain ⟨a0, a1, a2, a3⟩ := Ha4.out
  obtain ⟨b0, b1, b2, b3⟩ := Hb4.out
  obtain ⟨s0, s1, s2, s3⟩ := Hs4.out
  go_wp2_with fail
  refine (write_read f n _ HR.out HM.out).mono ?_
  rintro e w5 ⟨rfl, hb⟩
  clear x0 x1 x2 x3 a0 a1 a2 a3 b0 b1 b2 b3 s0 s1 s2 s3
  have B5 := Lib.hid (below_step B4.out hb B4.out.size)
  have Hx5 := Lib.hid ((Hx4.out.below hb))
  have Ha5 := Lib.hid ((Ha4.out.below hb))
  have Hb5 := Lib.hid ((Hb4.out.below hb))
  have Hs5 := Lib.hid ((Hs4.out.below hb))
  clear hb
  obtain ⟨x0, x1, x2, x3⟩ := Hx5.out
  obtain ⟨a0, a1, a2, a3⟩ := Ha5.out
  obtain ⟨b0, b1, b2, b3⟩ := Hb5.out
  obtain ⟨s0, s1, s2, s3⟩ := Hs5.out
  go_wp2_with fail
  refine (awake15 _).mono ?_
  rintro e w6 ⟨rfl, hb⟩
  clear x0 x1 x2 x3 a0 a1 a2 a3 b0 b1 b2 b3 s0 s1 s2 s3
  have B6 := Lib.hid (below_step B5.out hb B5.out.size)
  have Hx6 := Lib.hid ((Hx5.out.below hb))
  have Ha6 := Lib.hid ((Ha5.out.below hb))
  have Hb6 := Lib.hid ((Hb5.out.below hb))
  have Hs6 := Lib.hid ((Hs5.out.below hb))
  clear hb
  obtain ⟨x0, x1, x2, x3⟩ := Hx6.out
  obtain ⟨a0, a1, a2, a3⟩ := Ha6.out
  obtain ⟨b0, b1, b2, b3⟩ := Hb6.out
  obtain ⟨s0, s1, s2, s3⟩ := Hs6.out
  go_wp2
  go_ret
  exact ⟨rfl, B6.out⟩
set_option maxHeartbeats 4000000 in
theorem cowNever_read_manyt (f n : Int) (W : World) (h : pgE true false false f = true) (hn : 1 < n) : Calls Try.prog 6 #[ent true false false f, .int .i64 n, .bool true] W fun e w' => e = .returned (.bool true) ∧ Below W.heap.size W w' := by
  have HA : Hid (pgE true false false f = true) := Lib.hid (pgE_of h)
  have HW : Hid (pgE true true false f = true) := Lib.hid (pgE_of h)
  have HC : Hid (pgE true false true f = true) := Lib.hid (pgE_of h)
  have HR : Hid (pgE true false false f = true) := Lib.hid (pgE_of h)
  have H := Lib.hid h
  clear h
  have HN := Lib.hid hn
  have HM : Hid (1 ≤ n) := Lib.hid (by omega)
  have m1 : ¬ n < 1 := by omega
  have m2 : ¬ n ≤ 1 := by omega
  go_enter Try.func6, Try.ntmps6
  have B0 : Hid (Below W.heap.size W (W.alloc (.cells #[.bool true, .bool false, .bool false, .int .i64 f] 23))) := Lib.hid ((Below.refl _ _).alloc (Nat.le_refl _) _)
  have Hx0 : Hid (EntAt (W.alloc (.cells #[.bool true, .bool false, .bool false, .int .i64 f] 23)) W.heap.size true false false f) := Lib.hid (EntAt.new ..)
  go_wp2_with fail
  refine (fork_read f _ H.out).mono ?_
  rintro e w1 ⟨rfl, hb⟩
  have B1 : Hid (Below W.heap.size W (w1.alloc (.cells #[.bool true, .bool false, .bool false, .int .i64 f] 23))) := Lib.hid ((below_step B0.out hb B0.out.size).alloc (below_step B0.out hb B0.out.size).size _)
  have Hx1 := Lib.hid ((Hx0.out.below hb).alloc (.cells #[.bool true, .bool false, .bool false, .int .i64 f] 23))
  have Ha1 : Hid (EntAt (w1.alloc (.cells #[.bool true, .bool false, .bool false, .int .i64 f] 23)) w1.heap.size true false false f) := Lib.hid (EntAt.new ..)
  clear hb
  obtain ⟨x0, x1, x2, x3⟩ := Hx1.out
  obtain ⟨a0, a1, a2, a3⟩ := Ha1.out
  go_wp2_with fail
  refine (fork_read f _ HA.out).mono ?_
  rintro e w2 ⟨rfl, hb⟩
  clear x0 x1 x2 x3 a0 a1 a2 a3
  have B2 : Hid (Below W.heap.size W (w2.alloc (.cells #[.bool true, .bool false, .bool false, .int .i64 f] 23))) := Lib.hid ((below_step B1.out hb B1.out.size).alloc (below_step B1.out hb B1.out.size).size _)
  have Hx2 := Lib.hid ((Hx1.out.below hb).alloc (.cells #[.bool true, .bool false, .bool false, .int .i64 f] 23))
  have Ha2 := Lib.hid ((Ha1.out.below hb).alloc (.cells #[.bool true, .bool false, .bool false, .int .i64 f] 23))
  have Hb2 : Hid (EntAt (w2.alloc (.cells #[.bool true, .bool false, .bool false, .int .i64 f] 23)) w2.heap.size true false false f) := Lib.hid (EntAt.new ..)
  clear hb
  obtain ⟨x0, x1, x2, x3⟩ := Hx2.out
  obtain ⟨a0, a1, a2, a3⟩ := Ha2.out
  obtain ⟨b0, b1, b2, b3⟩ := Hb2.out
  go_wp2_with fail
  refine (write_read f n _ HA.out HM.out).mono ?_
  rintro e w3 ⟨rfl, hb⟩
  clear x0 x1 x2 x3 a0 a1 a2 a3 b0 b1 b2 b3
  have B3 := Lib.hid (below_step B2.out hb B2.out.size)
  have Hx3 := Lib.hid ((Hx2.out.below hb))
  have Ha3 := Lib.hid ((Ha2.out.below hb))
  have Hb3 := Lib.hid ((Hb2.out.below hb))
  clear hb
  obtain ⟨x0, x1, x2, x3⟩ := Hx3.out
  obtain ⟨a0, a1, a2, a3⟩ := Ha3.out
  obtain ⟨b0, b1, b2, b3⟩ := Hb3.out
  go_wp2_with fail
  refine (set_copy false false f n _ H.out HN.out).mono ?_
  rintro e w4 ⟨rfl, hb⟩
  clear x0 x1 x2 x3 a0 a1 a2 a3 b0 b1 b2 b3
  have B4 : Hid (Below W.heap.size W (w4.alloc (.cells #[.bool true, .bool false, .bool true, .int .i64 f] 23))) := Lib.hid ((below_step B3.out hb B3.out.size).alloc (below_step B3.out hb B3.out.size).size _)
  have Hx4 := Lib.hid ((Hx3.out.below hb).alloc (.cells #[.bool true, .bool false, .bool true, .int .i64 f] 23))
  have Ha4 := Lib.hid ((Ha3.out.below hb).alloc (.cells #[.bool true, .bool false, .bool true, .int .i64 f] 23))
  have Hb4 := Lib.hid ((Hb3.out.below hb).alloc (.cells #[.bool true, .bool false, .bool true, .int .i64 f] 23))
  have Hs4 : Hid (EntAt (w4.alloc (.cells #[.bool true, .bool false, .bool true, .int .i64 f] 23)) w4.heap.size true false true f) := Lib.hid (EntAt.new ..)
  clear hb
  obtain ⟨x0, x1, x2, x3⟩ := Hx4.out
  obtain ⟨a0, a1, a2, a3⟩ := Ha4.out
  obtain ⟨b0, b1, b2, b3⟩ := Hb4.out
  obtain ⟨s0, s1, s2, s3⟩ := Hs4.out
  go_wp2_with fail
  refine (write_many f n _ HC.out HN.out).mono ?_
  rintro e w5 ⟨rfl, hb⟩
  clear x0 x1 x2 x3 a0 a1 a2 a3 b0 b1 b2 b3 s0 s1 s2 s3
  have B5 := Lib.hid (below_step B4.out hb B4.out.size)
  have Hx5 := Lib.hid ((Hx4.out.below hb))
  have Ha5 := Lib.hid ((Ha4.out.below hb))
  have Hb5 := Lib.hid ((Hb4.out.below hb))
  have Hs5 := Lib.hid ((Hs4.out.below hb))
  clear hb
  obtain ⟨x0, x1, x2, x3⟩ := Hx5.out
  obtain ⟨a0, a1, a2, a3⟩ := Ha5.out
  obtain ⟨b0, b1, b2, b3⟩ := Hb5.out
  obtain ⟨s0, s1, s2, s3⟩ := Hs5.out
  go_wp2_with fail
  refine (awake15 _).mono ?_
  rintro e w6 ⟨rfl, hb⟩
  clear x0 x1 x2 x3 a0 a1 a2 a3 b0 b1 b2 b3 s0 s1 s2 s3
  have B6 := Lib.hid (below_step B5.out hb B5.out.size)
  have Hx6 := Lib.hid ((Hx5.out.below hb))
  have Ha6 := Lib.hid ((Ha5.out.below hb))
  have Hb6 := Lib.hid ((Hb5.out.below hb))
  have Hs6 := Lib.hid ((Hs5.out.below hb))
  clear hb
  obtain ⟨x0, x1, x2, x3⟩ := Hx6.out
  obtain ⟨a0, a1, a2, a3⟩ := Ha6.out
  obtain ⟨b0, b1, b2, b3⟩ := Hb6.out
  obtain ⟨s0, s1, s2, s3⟩ := Hs6.out
  go_wp2
  go_ret
  exact ⟨rfl, B6.out⟩
set_option maxHeartbeats 2000000 in
theorem cowNever_write_few (f n : Int) (x : Bool) (W : World) (h : pgE true true false f = true) (hn : n < 1) : Calls Try.prog 6 #[ent true true false f, .int .i64 n, .bool x] W fun e w' => e = .returned (.bool true) ∧ Below W.heap.size W w' := by
  have HA : Hid (pgE true false true f = true) := Lib.hid (pgE_of h)
  have HW : Hid (pgE true true false f = true) := Lib.hid (pgE_of h)
  have HC : Hid (pgE true false true f = true) := Lib.hid (pgE_of h)
  have HR : Hid (pgE true false false f = true) := Lib.hid (pgE_of h)
  have H := Lib.hid h
  clear h
  have HN := Lib.hid hn
  have m3 : n ≤ 1 := by omega
  go_enter Try.func6, Try.ntmps6
  have B0 : Hid (Below W.heap.size W (W.alloc (.cells #[.bool true, .bool true, .bool false, .int .i64 f] 23))) := Lib.hid ((Below.refl _ _).alloc (Nat.le_refl _) _)
  have Hx0 : Hid (EntAt (W.alloc (.cells #[.bool true, .bool true, .bool false, .int .i64 f] 23)) W.heap.size true true false f) := Lib.hid (EntAt.new ..)
  go_wp2_with fail
  refine (fork_write f _ H.out).mono ?_
  rintro e w1 ⟨rfl, hb⟩
  have B1 : Hid (Below W.heap.size W (w1.alloc (.cells #[.bool true, .bool false, .bool true, .int .i64 f] 23))) := Lib.hid ((below_step B0.out hb B0.out.size).alloc (below_step B0.out hb B0.out.size).size _)
  have Hx1 := Lib.hid ((Hx0.out.below hb).alloc (.cells #[.bool true, .bool false, .bool true, .int .i64 f] 23))
  have Ha1 : Hid (EntAt (w1.alloc (.cells #[.bool true, .bool false, .bool true, .int .i64 f] 23)) w1.heap.size true false true f) := Lib.hid (EntAt.new ..)
  clear hb
  obtain ⟨x0, x1, x2, x3⟩ := Hx1.out
  obtain ⟨a0, a1, a2, a3⟩ := Ha1.out
  go_wp2_with fail
  refine (fork_copy f _ HA.out).mono ?_
  rintro e w2 ⟨rfl, hb⟩
  clear x0 x1 x2 x3 a0 a1 a2 a3
  have B2 : Hid (Below W.heap.size W (w2.alloc (.cells #[.bool true, .bool false, .bool true, .int .i64 f] 23))) := Lib.hid ((below_step B1.out hb B1.out.size).alloc (below_step B1.out hb B1.out.size).size _)
  have Hx2 := Lib.hid ((Hx1.out.below hb).alloc (.cells #[.bool true, .bool false, .bool true, .int .i64 f] 23))
  have Ha2 := Lib.hid ((Ha1.out.below hb).alloc (.cells #[.bool true, .bool false, .bool true, .int .i64 f] 23))
  have Hb2 : Hid (EntAt (w2.alloc (.cells #[.bool true, .bool false, .bool true, .int .i64 f] 23)) w2.heap.size true false true f) := Lib.hid (EntAt.new ..)
  clear hb
  obtain ⟨x0, x1, x2, x3⟩ := Hx2.out
  obtain ⟨a0, a1, a2, a3⟩ := Ha2.out
  obtain ⟨b0, b1, b2, b3⟩ := Hb2.out
  go_wp2_with fail
  refine (write_own f _ HA.out).mono ?_
  rintro e w3 ⟨rfl, hb⟩
  clear x0 x1 x2 x3 a0 a1 a2 a3 b0 b1 b2 b3
  have B3 := Lib.hid (below_step B2.out hb B2.out.size)
  have Hx3 := Lib.hid ((Hx2.out.below hb))
  have Ha3 := Lib.hid ((Ha2.out.below hb))
  have Hb3 := Lib.hid ((Hb2.out.below hb))
  clear hb
  obtain ⟨x0, x1, x2, x3⟩ := Hx3.out
  obtain ⟨a0, a1, a2, a3⟩ := Ha3.out
  obtain ⟨b0, b1, b2, b3⟩ := Hb3.out
  go_wp2_with fail
  refine (set_few true true false f n x _ H.out HN.out).mono ?_
  rintro e w4 ⟨rfl, hb⟩
  clear x0 x1 x2 x3 a0 a1 a2 a3 b0 b1 b2 b3
  have B4 : Hid (Below W.heap.size W (w4.alloc (.cells #[.bool false, .bool false, .bool false, .int .i64 0] 23))) := Lib.hid ((below_step B3.out hb B3.out.size).alloc (below_step B3.out hb B3.out.size).size _)
  have Hx4 := Lib.hid ((Hx3.out.below hb).alloc (.cells #[.bool false, .bool false, .bool false, .int .i64 0] 23))
  have Ha4 := Lib.hid ((Ha3.out.below hb).alloc (.cells #[.bool false, .bool false, .bool false, .int .i64 0] 23))
  have Hb4 := Lib.hid ((Hb3.out.below hb).alloc (.cells #[.bool false, .bool false, .bool false, .int .i64 0] 23))
  have Hs4 : Hid (EntAt (w4.alloc (.cells #[.bool false, .bool false, .bool false, .int .i64 0] 23)) w4.heap.size false false false 0) := Lib.hid (EntAt.new ..)
  clear hb
  obtain ⟨x0, x1, x2, x3⟩ := Hx4.out
  obtain ⟨a0, a1, a2, a3⟩ := Ha4.out
  obtain ⟨b0, b1, b2, b3⟩ := Hb4.out
  obtain ⟨s0, s1, s2, s3⟩ := Hs4.out
  go_wp2_with fail
  refine (awake15 _).mono ?_
  rintro e w5 ⟨rfl, hb⟩
  clear x0 x1 x2 x3 a0 a1 a2 a3 b0 b1 b2 b3 s0 s1 s2 s3
  have B5 := Lib.hid (below_step B4.out hb B4.out.size)
  have Hx5 := Lib.hid ((Hx4.out.below hb))
  have Ha5 := Lib.hid ((Ha4.out.below hb))
  have Hb5 := Lib.hid ((Hb4.out.below hb))
  have Hs5 := Lib.hid ((Hs4.out.below hb))
  clear hb
  obtain ⟨x0, x1, x2, x3⟩ := Hx5.out
  obtain ⟨a0, a1, a2, a3⟩ := Ha5.out
  obtain ⟨b0, b1, b2, b3⟩ := Hb5.out
  obtain ⟨s0, s1, s2, s3⟩ := Hs5.out
  go_wp2
  go_ret
  exact ⟨rfl, B5.out⟩
set_option maxHeartbeats 4000000 in
theorem cowNever_write_onef (f : Int) (W : World) (h : pgE true true false f = true) : Calls Try.prog 6 #[ent true true false f, .int .i64 1, .bool false] W fun e w' => e = .returned (.bool true) ∧ Below W.heap.size W w' := by
  have HA : Hid (pgE true false true f = true) := Lib.hid (pgE_of h)
  have HW : Hid (pgE true true false f = true) := Lib.hid (pgE_of h)
  have HC : Hid (pgE true false true f = true) := Lib.hid (pgE_of h)
  have HR : Hid (pgE true false false f = true) := Lib.hid (pgE_of h)
  have H := Lib.hid h
  clear h
  go_enter Try.func6, Try.ntmps6
  have B0 : Hid (Below W.heap.size W (W.alloc (.cells #[.bool true, .bool true, .bool false, .int .i64 f] 23))) := Lib.hid ((Below.refl _ _).alloc (Nat.le_refl _) _)
  have Hx0 : Hid (EntAt (W.alloc (.cells #[.bool true, .bool true, .bool false, .int .i64 f] 23)) W.heap.size true true false f) := Lib.hid (EntAt.new ..)
  go_wp2_with fail
  refine (fork_write f _ H.out).mono ?_
  rintro e w1 ⟨rfl, hb⟩
  have B1 : Hid (Below W.heap.size W (w1.alloc (.cells #[.bool true, .bool false, .bool true, .int .i64 f] 23))) := Lib.hid ((below_step B0.out hb B0.out.size).alloc (below_step B0.out hb B0.out.size).size _)
  have Hx1 := Lib.hid ((Hx0.out.below hb).alloc (.cells #[.bool true, .bool false, .bool true, .int .i64 f] 23))
  have Ha1 : Hid (EntAt (w1.alloc (.cells #[.bool true, .bool false, .bool true, .int .i64 f] 23)) w1.heap.size true false true f) := Lib.hid (EntAt.new ..)
  clear hb
  obtain ⟨x0, x1, x2, x3⟩ := Hx1.out
  obtain ⟨a0, a1, a2, a3⟩ := Ha1.out
  go_wp2_with fail
  refine (fork_copy f _ HA.out).mono ?_
  rintro e w2 ⟨rfl, hb⟩
  clear x0 x1 x2 x3 a0 a1 a2 a3
  have B2 : Hid (Below W.heap.size W (w2.alloc (.cells #[.bool true, .bool false, .bool true, .int .i64 f] 23))) := Lib.hid ((below_step B1.out hb B1.out.size).alloc (below_step B1.out hb B1.out.size).size _)
  have Hx2 := Lib.hid ((Hx1.out.below hb).alloc (.cells #[.bool true, .bool false, .bool true, .int .i64 f] 23))
  have Ha2 := Lib.hid ((Ha1.out.below hb).alloc (.cells #[.bool true, .bool false, .bool true, .int .i64 f] 23))
  have Hb2 : Hid (EntAt (w2.alloc (.cells #[.bool true, .bool false, .bool true, .int .i64 f] 23)) w2.heap.size true false true f) := Lib.hid (EntAt.new ..)
  clear hb
  obtain ⟨x0, x1, x2, x3⟩ := Hx2.out
  obtain ⟨a0, a1, a2, a3⟩ := Ha2.out
  obtain ⟨b0, b1, b2, b3⟩ := Hb2.out
  go_wp2_with fail
  refine (write_own f _ HA.out).mono ?_
  rintro e w3 ⟨rfl, hb⟩
  clear x0 x1 x2 x3 a0 a1 a2 a3 b0 b1 b2 b3
  have B3 := Lib.hid (below_step B2.out hb B2.out.size)
  have Hx3 := Lib.hid ((Hx2.out.below hb))
  have Ha3 := Lib.hid ((Ha2.out.below hb))
  have Hb3 := Lib.hid ((Hb2.out.below hb))
  clear hb
  obtain ⟨x0, x1, x2, x3⟩ := Hx3.out
  obtain ⟨a0, a1, a2, a3⟩ := Ha3.out
  obtain ⟨b0, b1, b2, b3⟩ := Hb3.out
  go_wp2_with fail
  refine (set_read true false f 1 _ H.out (by decide)).mono ?_
  rintro e w4 ⟨rfl, hb⟩
  clear x0 x1 x2 x3 a0 a1 a2 a3 b0 b1 b2 b3
  have B4 : Hid (Below W.heap.size W (w4.alloc (.cells #[.bool true, .bool false, .bool false, .int .i64 f] 23))) := Lib.hid ((below_step B3.out hb B3.out.size).alloc (below_step B3.out hb B3.out.size).size _)
  have Hx4 := Lib.hid ((Hx3.out.below hb).alloc (.cells #[.bool true, .bool false, .bool false, .int .i64 f] 23))
  have Ha4 := Lib.hid ((Ha3.out.below hb).alloc (.cells #[.bool true, .bool false, .bool false, .int .i64 f] 23))
  have Hb4 := Lib.hid ((Hb3.out.below hb).alloc (.cells #[.bool true, .bool false, .bool false, .int .i64 f] 23))
  have Hs4 : Hid (EntAt (w4.alloc (.cells #[.bool true, .bool false, .bool false, .int .i64 f] 23)) w4.heap.size true false false f) := Lib.hid (EntAt.new ..)
  clear hb
  obtain ⟨x0, x1, x2, x3⟩ := Hx4.out
  obtain ⟨a0, a1, a2, a3⟩ := Ha4.out
  obtain ⟨b0, b1, b2, b3⟩ := Hb4.out
  obtain ⟨s0, s1, s2, s3⟩ := Hs4.out
  go_wp2_with fail
  refine (write_read f 1 _ HR.out (by decide)).mono ?_
  rintro e w5 ⟨rfl, hb⟩
  clear x0 x1 x2 x3 a0 a1 a2 a3 b0 b1 b2 b3 s0 s1 s2 s3
  have B5 := Lib.hid (below_step B4.out hb B4.out.size)
  have Hx5 := Lib.hid ((Hx4.out.below hb))
  have Ha5 := Lib.hid ((Ha4.out.below hb))
  have Hb5 := Lib.hid ((Hb4.out.below hb))
  have Hs5 := Lib.hid ((Hs4.out.below hb))
  clear hb
  obtain ⟨x0, x1, x2, x3⟩ := Hx5.out
  obtain ⟨a0, a1, a2, a3⟩ := Ha5.out
  obtain ⟨b0, b1, b2, b3⟩ := Hb5.out
  obtain ⟨s0, s1, s2, s3⟩ := Hs5.out
  go_wp2_with fail
  refine (awake15 _).mono ?_
  rintro e w6 ⟨rfl, hb⟩
  clear x0 x1 x2 x3 a0 a1 a2 a3 b0 b1 b2 b3 s0 s1 s2 s3
  have B6 := Lib.hid (below_step B5.out hb B5.out.size)
  have Hx6 := Lib.hid ((Hx5.out.below hb))
  have Ha6 := Lib.hid ((Ha5.out.below hb))
  have Hb6 := Lib.hid ((Hb5.out.below hb))
  have Hs6 := Lib.hid ((Hs5.out.below hb))
  clear hb
  obtain ⟨x0, x1, x2, x3⟩ := Hx6.out
  obtain ⟨a0, a1, a2, a3⟩ := Ha6.out
  obtain ⟨b0, b1, b2, b3⟩ := Hb6.out
  obtain ⟨s0, s1, s2, s3⟩ := Hs6.out
  go_wp2
  go_ret
  exact ⟨rfl, B6.out⟩
set_option maxHeartbeats 4000000 in
theorem cowNever_write_onet (f : Int) (W : World) (h : pgE true true false f = true) : Calls Try.prog 6 #[ent true true false f, .int .i64 1, .bool true] W fun e w' => e = .returned (.bool true) ∧ Below W.heap.size W w' := by
  have HA : Hid (pgE true false true f = true) := Lib.hid (pgE_of h)
  have HW : Hid (pgE true true false f = true) := Lib.hid (pgE_of h)
  have HC : Hid (pgE true false true f = true) := Lib.hid (pgE_of h)
  have HR : Hid (pgE true false false f = true) := Lib.hid (pgE_of h)
  have H := Lib.hid h
  clear h
  go_enter Try.func6, Try.ntmps6
  have B0 : Hid (Below W.heap.size W (W.alloc (.cells #[.bool true, .bool true, .bool false, .int .i64 f] 23))) := Lib.hid ((Below.refl _ _).alloc (Nat.le_refl _) _)
  have Hx0 : Hid (EntAt (W.alloc (.cells #[.bool true, .bool true, .bool false, .int .i64 f] 23)) W.heap.size true true false f) := Lib.hid (EntAt.new ..)
  go_wp2_with fail
  refine (fork_write f _ H.out).mono ?_
  rintro e w1 ⟨rfl, hb⟩
  have B1 : Hid (Below W.heap.size W (w1.alloc (.cells #[.bool true, .bool false, .bool true, .int .i64 f] 23))) := Lib.hid ((below_step B0.out hb B0.out.size).alloc (below_step B0.out hb B0.out.size).size _)
  have Hx1 := Lib.hid ((Hx0.out.below hb).alloc (.cells #[.bool true, .bool false, .bool true, .int .i64 f] 23))
  have Ha1 : Hid (EntAt (w1.alloc (.cells #[.bool true, .bool false, .bool true, .int .i64 f] 23)) w1.heap.size true false true f) := Lib.hid (EntAt.new ..)
  clear hb
  obtain ⟨x0, x1, x2, x3⟩ := Hx1.out
  obtain ⟨a0, a1, a2, a3⟩ := Ha1.out
  go_wp2_with fail
  refine (fork_copy f _ HA.out).mono ?_
  rintro e w2 ⟨rfl, hb⟩
  clear x0 x1 x2 x3 a0 a1 a2 a3
  have B2 : Hid (Below W.heap.size W (w2.alloc (.cells #[.bool true, .bool false, .bool true, .int .i64 f] 23))) := Lib.hid ((below_step B1.out hb B1.out.size).alloc (below_step B1.out hb B1.out.size).size _)
  have Hx2 := Lib.hid ((Hx1.out.below hb).alloc (.cells #[.bool true, .bool false, .bool true, .int .i64 f] 23))
  have Ha2 := Lib.hid ((Ha1.out.below hb).alloc (.cells #[.bool true, .bool false, .bool true, .int .i64 f] 23))
  have Hb2 : Hid (EntAt (w2.alloc (.cells #[.bool true, .bool false, .bool true, .int .i64 f] 23)) w2.heap.size true false true f) := Lib.hid (EntAt.new ..)
  clear hb
  obtain ⟨x0, x1, x2, x3⟩ := Hx2.out
  obtain ⟨a0, a1, a2, a3⟩ := Ha2.out
  obtain ⟨b0, b1, b2, b3⟩ := Hb2.out
  go_wp2_with fail
  refine (write_own f _ HA.out).mono ?_
  rintro e w3 ⟨rfl, hb⟩
  clear x0 x1 x2 x3 a0 a1 a2 a3 b0 b1 b2 b3
  have B3 := Lib.hid (below_step B2.out hb B2.out.size)
  have Hx3 := Lib.hid ((Hx2.out.below hb))
  have Ha3 := Lib.hid ((Ha2.out.below hb))
  have Hb3 := Lib.hid ((Hb2.out.below hb))
  clear hb
  obtain ⟨x0, x1, x2, x3⟩ := Hx3.out
  obtain ⟨a0, a1, a2, a3⟩ := Ha3.out
  obtain ⟨b0, b1, b2, b3⟩ := Hb3.out
  go_wp2_with fail
  refine (set_write true false f _ H.out).mono ?_
  rintro e w4 ⟨rfl, hb⟩
  clear x0 x1 x2 x3 a0 a1 a2 a3 b0 b1 b2 b3
  have B4 : Hid (Below W.heap.size W (w4.alloc (.cells #[.bool true, .bool true, .bool false, .int .i64 f] 23))) := Lib.hid ((below_step B3.out hb B3.out.size).alloc (below_step B3.out hb B3.out.size).size _)
  have Hx4 := Lib.hid ((Hx3.out.below hb).alloc (.cells #[.bool true, .bool true, .bool false, .int .i64 f] 23))
  have Ha4 := Lib.hid ((Ha3.out.below hb).alloc (.cells #[.bool true, .bool true, .bool false, .int .i64 f] 23))
  have Hb4 := Lib.hid ((Hb3.out.below hb).alloc (.cells #[.bool true, .bool true, .bool false, .int .i64 f] 23))
  have Hs4 : Hid (EntAt (w4.alloc (.cells #[.bool true, .bool true, .bool false, .int .i64 f] 23)) w4.heap.size true true false f) := Lib.hid (EntAt.new ..)
  clear hb
  obtain ⟨x0, x1, x2, x3⟩ := Hx4.out
  obtain ⟨a0, a1, a2, a3⟩ := Ha4.out
  obtain ⟨b0, b1, b2, b3⟩ := Hb4.out
  obtain ⟨s0, s1, s2, s3⟩ := Hs4.out
  go_wp2_with fail
  refine (write_write f 1 _ HW.out (by decide)).mono ?_
  rintro e w5 ⟨rfl, hb⟩
  clear x0 x1 x2 x3 a0 a1 a2 a3 b0 b1 b2 b3 s0 s1 s2 s3
  have B5 := Lib.hid (below_step B4.out hb B4.out.size)
  have Hx5 := Lib.hid ((Hx4.out.below hb))
  have Ha5 := Lib.hid ((Ha4.out.below hb))
  have Hb5 := Lib.hid ((Hb4.out.below hb))
  have Hs5 := Lib.hid ((Hs4.out.below hb))
  clear hb
  obtain ⟨x0, x1, x2, x3⟩ := Hx5.out
  obtain ⟨a0, a1, a2, a3⟩ := Ha5.out
  obtain ⟨b0, b1, b2, b3⟩ := Hb5.out
  obtain ⟨s0, s1, s2, s3⟩ := Hs5.out
  go_wp2_with fail
  refine (awake15 _).mono ?_
  rintro e w6 ⟨rfl, hb⟩
  clear x0 x1 x2 x3 a0 a1 a2 a3 b0 b1 b2 b3 s0 s1 s2 s3
  have B6 := Lib.hid (below_step B5.out hb B5.out.size)
  have Hx6 := Lib.hid ((Hx5.out.below hb))
  have Ha6 := Lib.hid ((Ha5.out.below hb))
  have Hb6 := Lib.hid ((Hb5.out.below hb))
  have Hs6 := Lib.hid ((Hs5.out.below hb))
  clear hb
  obtain ⟨x0, x1, x2, x3⟩ := Hx6.out
  obtain ⟨a0, a1, a2, a3⟩ := Ha6.out
  obtain ⟨b0, b1, b2, b3⟩ := Hb6.out
  obtain ⟨s0, s1, s2, s3⟩ := Hs6.out
  go_wp2
  go_ret
  exact ⟨rfl, B6.out⟩
set_option maxHeartbeats 4000000 in
theorem cowNever_write_manyf (f n : Int) (W : World) (h : pgE true true false f = true) (hn : 1 < n) : Calls Try.prog 6 #[ent true true false f, .int .i64 n, .bool false] W fun e w' => e = .returned (.bool true) ∧ Below W.heap.size W w' := by
  have HA : Hid (pgE true false true f = true) := Lib.hid (pgE_of h)
  have HW : Hid (pgE true true false f = true) := Lib.hid (pgE_of h)
  have HC : Hid (pgE true false true f = true) := Lib.hid (pgE_of h)
  have HR : Hid (pgE true false false f = true) := Lib.hid (pgE_of h)
  have H := Lib.hid h
  clear h
  have HN := Lib.hid hn
  have HM : Hid (1 ≤ n) := Lib.hid (by omega)
  have m1 : ¬ n < 1 := by omega
  have m2 : ¬ n ≤ 1 := by omega
  go_enter Try.func6, Try.ntmps6
  have B0 : Hid (Below W.heap.size W (W.alloc (.cells #[.bool true, .bool true, .bool false, .int .i64 f] 23))) := Lib.hid ((Below.refl _ _).alloc (Nat.le_refl _) _)
  have Hx0 : Hid (EntAt (W.alloc (.cells #[.bool true, .bool true, .bool false, .int .i64 f] 23)) W.heap.size true true false f) := Lib.hid (EntAt.new ..)
  go_wp2_with fail
  refine (fork_write f _ H.out).mono ?_
  rintro e w1 ⟨rfl, hb⟩
  have B1 : Hid (Below W.heap.size W (w1.alloc (.cells #[.bool true, .bool false, .bool true, .int .i64 f] 23))) := Lib.hid ((below_step B0.out hb B0.out.size).alloc (below_step B0.out hb B0.out.size).size _)
  have Hx1 := Lib.hid ((Hx0.out.below hb).alloc (.cells #[.bool true, .bool false, .bool true, .int .i64 f] 23))
  have Ha1 : Hid (EntAt (w1.alloc (.cells #[.bool true, .bool false, .bool true, .int .i64 f] 23)) w1.heap.size true false true f) := Lib.hid (EntAt.new ..)
  clear hb
  obtain ⟨x0, x1, x2, x3⟩ := Hx1.out
  obtain ⟨a0, a1, a2, a3⟩ := Ha1.out
  go_wp2_with fail
  refine (fork_copy f _ HA.out).mono ?_
  rintro e w2 ⟨rfl, hb⟩
  clear x0 x1 x2 x3 a0 a1 a2 a3
  have B2 : Hid (Below W.heap.size W (w2.alloc (.cells #[.bool true, .bool false, .bool true, .int .i64 f] 23))) := Lib.hid ((below_step B1.out hb B1.out.size).alloc (below_step B1.out hb B1.out.size).size _)
  have Hx2 := Lib.hid ((Hx1.out.below hb).alloc (.cells #[.bool true, .bool false, .bool true, .int .i64 f] 23))
  have Ha2 := Lib.hid ((Ha1.out.below hb).alloc (.cells #[.bool true, .bool false, .bool true, .int .i64 f] 23))
  have Hb2 : Hid (EntAt (w2.alloc (.cells #[.bool true, .bool false, .bool true, .int .i64 f] 23)) w2.heap.size true false true f) := Lib.hid (EntAt.new ..)
  clear hb
  obtain ⟨x0, x1, x2, x3⟩ := Hx2.out
  obtain ⟨a0, a1, a2, a3⟩ := Ha2.out
  obtain ⟨b0, b1, b2, b3⟩ := Hb2.out
  go_wp2_with fail
  refine (write_many f n _ HA.out HN.out).mono ?_
  rintro e w3 ⟨rfl, hb⟩
  clear x0 x1 x2 x3 a0 a1 a2 a3 b0 b1 b2 b3
  have B3 := Lib.hid (below_step B2.out hb B2.out.size)
  have Hx3 := Lib.hid ((Hx2.out.below hb))
  have Ha3 := Lib.hid ((Ha2.out.below hb))
  have Hb3 := Lib.hid ((Hb2.out.below hb))
  clear hb
  obtain ⟨x0, x1, x2, x3⟩ := Hx3.out
  obtain ⟨a0, a1, a2, a3⟩ := Ha3.out
  obtain ⟨b0, b1, b2, b3⟩ := Hb3.out
  go_wp2_with fail
  refine (set_read true false f n _ H.out HM.out).mono ?_
  rintro e w4 ⟨rfl, hb⟩
  clear x0 x1 x2 x3 a0 a1 a2 a3 b0 b1 b2 b3
  have B4 : Hid (Below W.heap.size W (w4.alloc (.cells #[.bool true, .bool false, .bool false, .int .i64 f] 23))) := Lib.hid ((below_step B3.out hb B3.out.size).alloc (below_step B3.out hb B3.out.size).size _)
  have Hx4 := Lib.hid ((Hx3.out.below hb).alloc (.cells #[.bool true, .bool false, .bool false, .int .i64 f] 23))
  have Ha4 := Lib.hid ((Ha3.out.below hb).alloc (.cells #[.bool true, .bool false, .bool false, .int .i64 f] 23))
  have Hb4 := Lib.hid ((Hb3.out.below hb).alloc (.cells #[.bool true, .bool false, .bool false, .int .i64 f] 23))
  have Hs4 : Hid (EntAt (w4.alloc (.cells #[.bool true, .bool false, .bool false, .int .i64 f] 23)) w4.heap.size true false false f) := Lib.hid (EntAt.new ..)
  clear hb
  obtain ⟨x0, x1, x2, x3⟩ := Hx4.out
  obtain ⟨a0, a1, a2, a3⟩ := Ha4.out
  obtain ⟨b0, b1, b2, b3⟩ := Hb4.out
  obtain ⟨s0, s1, s2, s3⟩ := Hs4.out
  go_wp2_with fail
  refine (write_read f n _ HR.out HM.out).mono ?_
  rintro e w5 ⟨rfl, hb⟩
  clear x0 x1 x2 x3 a0 a1 a2 a3 b0 b1 b2 b3 s0 s1 s2 s3
  have B5 := Lib.hid (below_step B4.out hb B4.out.size)
  have Hx5 := Lib.hid ((Hx4.out.below hb))
  have Ha5 := Lib.hid ((Ha4.out.below hb))
  have Hb5 := Lib.hid ((Hb4.out.below hb))
  have Hs5 := Lib.hid ((Hs4.out.below hb))
  clear hb
  obtain ⟨x0, x1, x2, x3⟩ := Hx5.out
  obtain ⟨a0, a1, a2, a3⟩ := Ha5.out
  obtain ⟨b0, b1, b2, b3⟩ := Hb5.out
  obtain ⟨s0, s1, s2, s3⟩ := Hs5.out
  go_wp2_with fail
  refine (awake15 _).mono ?_
  rintro e w6 ⟨rfl, hb⟩
  clear x0 x1 x2 x3 a0 a1 a2 a3 b0 b1 b2 b3 s0 s1 s2 s3
  have B6 := Lib.hid (below_step B5.out hb B5.out.size)
  have Hx6 := Lib.hid ((Hx5.out.below hb))
  have Ha6 := Lib.hid ((Ha5.out.below hb))
  have Hb6 := Lib.hid ((Hb5.out.below hb))
  have Hs6 := Lib.hid ((Hs5.out.below hb))
  clear hb
  obtain ⟨x0, x1, x2, x3⟩ := Hx6.out
  obtain ⟨a0, a1, a2, a3⟩ := Ha6.out
  obtain ⟨b0, b1, b2, b3⟩ := Hb6.out
  obtain ⟨s0, s1, s2, s3⟩ := Hs6.out
  go_wp2
  go_ret
  exact ⟨rfl, B6.out⟩
set_option maxHeartbeats 4000000 in
theorem cowNever_write_manyt (f n : Int) (W : World) (h : pgE true true false f = true) (hn : 1 < n) : Calls Try.prog 6 #[ent true true false f, .int .i64 n, .bool true] W fun e w' => e = .returned (.bool true) ∧ Below W.heap.size W w' := by
  have HA : Hid (pgE true false true f = true) := Lib.hid (pgE_of h)
  have HW : Hid (pgE true true false f = true) := Lib.hid (pgE_of h)
  have HC : Hid (pgE true false true f = true) := Lib.hid (pgE_of h)
  have HR : Hid (pgE true false false f = true) := Lib.hid (pgE_of h)
  have H := Lib.hid h
  clear h
  have HN := Lib.hid hn
  have HM : Hid (1 ≤ n) := Lib.hid (by omega)
  have m1 : ¬ n < 1 := by omega
  have m2 : ¬ n ≤ 1 := by omega
  go_enter Try.func6, Try.ntmps6
  have B0 : Hid (Below W.heap.size W (W.alloc (.cells #[.bool true, .bool true, .bool false, .int .i64 f] 23))) := Lib.hid ((Below.refl _ _).alloc (Nat.le_refl _) _)
  have Hx0 : Hid (EntAt (W.alloc (.cells #[.bool true, .bool true, .bool false, .int .i64 f] 23)) W.heap.size true true false f) := Lib.hid (EntAt.new ..)
  go_wp2_with fail
  refine (fork_write f _ H.out).mono ?_
  rintro e w1 ⟨rfl, hb⟩
  have B1 : Hid (Below W.heap.size W (w1.alloc (.cells #[.bool true, .bool false, .bool true, .int .i64 f] 23))) := Lib.hid ((below_step B0.out hb B0.out.size).alloc (below_step B0.out hb B0.out.size).size _)
  have Hx1 := Lib.hid ((Hx0.out.below hb).alloc (.cells #[.bool true, .bool false, .bool true, .int .i64 f] 23))
  have Ha1 : Hid (EntAt (w1.alloc (.cells #[.bool true, .bool false, .bool true, .int .i64 f] 23)) w1.heap.size true false true f) := Lib.hid (EntAt.new ..)
  clear hb
  obtain ⟨x0, x1, x2, x3⟩ := Hx1.out
  obtain ⟨a0, a1, a2, a3⟩ := Ha1.out
  go_wp2_with fail
  refine (fork_copy f _ HA.out).mono ?_
  rintro e w2 ⟨rfl, hb⟩
  clear x0 x1 x2 x3 a0 a1 a2 a3
  have B2 : Hid (Below W.heap.size W (w2.alloc (.cells #[.bool true, .bool false, .bool true, .int .i64 f] 23))) := Lib.hid ((below_step B1.out hb B1.out.size).alloc (below_step B1.out hb B1.out.size).size _)
  have Hx2 := Lib.hid ((Hx1.out.below hb).alloc (.cells #[.bool true, .bool false, .bool true, .int .i64 f] 23))
  have Ha2 := Lib.hid ((Ha1.out.below hb).alloc (.cells #[.bool true, .bool false, .bool true, .int .i64 f] 23))
  have Hb2 : Hid (EntAt (w2.alloc (.cells #[.bool true, .bool false, .bool true, .int .i64 f] 23)) w2.heap.size true false true f) := Lib.hid (EntAt.new ..)
  clear hb
  obtain ⟨x0, x1, x2, x3⟩ := Hx2.out
  obtain ⟨a0, a1, a2, a3⟩ := Ha2.out
  obtain ⟨b0, b1, b2, b3⟩ := Hb2.out
  go_wp2_with fail
  refine (write_many f n _ HA.out HN.out).mono ?_
  rintro e w3 ⟨rfl, hb⟩
  clear x0 x1 x2 x3 a0 a1 a2 a3 b0 b1 b2 b3
  have B3 := Lib.hid (below_step B2.out hb B2.out.size)
  have Hx3 := Lib.hid ((Hx2.out.below hb))
  have Ha3 := Lib.hid ((Ha2.out.below hb))
  have Hb3 := Lib.hid ((Hb2.out.below hb))
  clear hb
  obtain ⟨x0, x1, x2, x3⟩ := Hx3.out
  obtain ⟨a0, a1, a2, a3⟩ := Ha3.out
  obtain ⟨b0, b1, b2, b3⟩ := Hb3.out
  go_wp2_with fail
  refine (set_copy true false f n _ H.out HN.out).mono ?_
  rintro e w4 ⟨rfl, hb⟩
  clear x0 x1 x2 x3 a0 a1 a2 a3 b0 b1 b2 b3
  have B4 : Hid (Below W.heap.size W (w4.alloc (.cells #[.bool true, .bool false, .bool true, .int .i64 f] 23))) := Lib.hid ((below_step B3.out hb B3.out.size).alloc (below_step B3.out hb B3.out.size).size _)
  have Hx4 := Lib.hid ((Hx3.out.below hb).alloc (.cells #[.bool true, .bool false, .bool true, .int .i64 f] 23))
  have Ha4 := Lib.hid ((Ha3.out.below hb).alloc (.cells #[.bool true, .bool false, .bool true, .int .i64 f] 23))
  have Hb4 := Lib.hid ((Hb3.out.below hb).alloc (.cells #[.bool true, .bool false, .bool true, .int .i64 f] 23))
  have Hs4 : Hid (EntAt (w4.alloc (.cells #[.bool true, .bool false, .bool true, .int .i64 f] 23)) w4.heap.size true false true f) := Lib.hid (EntAt.new ..)
  clear hb
  obtain ⟨x0, x1, x2, x3⟩ := Hx4.out
  obtain ⟨a0, a1, a2, a3⟩ := Ha4.out
  obtain ⟨b0, b1, b2, b3⟩ := Hb4.out
  obtain ⟨s0, s1, s2, s3⟩ := Hs4.out
  go_wp2_with fail
  refine (write_many f n _ HC.out HN.out).mono ?_
  rintro e w5 ⟨rfl, hb⟩
  clear x0 x1 x2 x3 a0 a1 a2 a3 b0 b1 b2 b3 s0 s1 s2 s3
  have B5 := Lib.hid (below_step B4.out hb B4.out.size)
  have Hx5 := Lib.hid ((Hx4.out.below hb))
  have Ha5 := Lib.hid ((Ha4.out.below hb))
  have Hb5 := Lib.hid ((Hb4.out.below hb))
  have Hs5 := Lib.hid ((Hs4.out.below hb))
  clear hb
  obtain ⟨x0, x1, x2, x3⟩ := Hx5.out
  obtain ⟨a0, a1, a2, a3⟩ := Ha5.out
  obtain ⟨b0, b1, b2, b3⟩ := Hb5.out
  obtain ⟨s0, s1, s2, s3⟩ := Hs5.out
  go_wp2_with fail
  refine (awake15 _).mono ?_
  rintro e w6 ⟨rfl, hb⟩
  clear x0 x1 x2 x3 a0 a1 a2 a3 b0 b1 b2 b3 s0 s1 s2 s3
  have B6 := Lib.hid (below_step B5.out hb B5.out.size)
  have Hx6 := Lib.hid ((Hx5.out.below hb))
  have Ha6 := Lib.hid ((Ha5.out.below hb))
  have Hb6 := Lib.hid ((Hb5.out.below hb))
  have Hs6 := Lib.hid ((Hs5.out.below hb))
  clear hb
  obtain ⟨x0, x1, x2, x3⟩ := Hx6.out
  obtain ⟨a0, a1, a2, a3⟩ := Ha6.out
  obtain ⟨b0, b1, b2, b3⟩ := Hb6.out
  obtain ⟨s0, s1, s2, s3⟩ := Hs6.out
  go_wp2
  go_ret
  exact ⟨rfl, B6.out⟩
set_option maxHeartbeats 2000000 in
theorem cowNever_copy_few (f n : Int) (x : Bool) (W : World) (h : pgE true false true f = true) (hn : n < 1) : Calls Try.prog 6 #[ent true false true f, .int .i64 n, .bool x] W fun e w' => e = .returned (.bool true) ∧ Below W.heap.size W w' := by
  have HA : Hid (pgE true false true f = true) := Lib.hid (pgE_of h)
  have HW : Hid (pgE true true false f = true) := Lib.hid (pgE_of h)
  have HC : Hid (pgE true false true f = true) := Lib.hid (pgE_of h)
  have HR : Hid (pgE true false false f = true) := Lib.hid (pgE_of h)
  have H := Lib.hid h
  clear h
  have HN := Lib.hid hn
  have m3 : n ≤ 1 := by omega
  go_enter Try.func6, Try.ntmps6
  have B0 : Hid (Below W.heap.size W (W.alloc (.cells #[.bool true, .bool false, .bool true, .int .i64 f] 23))) := Lib.hid ((Below.refl _ _).alloc (Nat.le_refl _) _)
  have Hx0 : Hid (EntAt (W.alloc (.cells #[.bool true, .bool false, .bool true, .int .i64 f] 23)) W.heap.size true false true f) := Lib.hid (EntAt.new ..)
  go_wp2_with fail
  refine (fork_copy f _ H.out).mono ?_
  rintro e w1 ⟨rfl, hb⟩
  have B1 : Hid (Below W.heap.size W (w1.alloc (.cells #[.bool true, .bool false, .bool true, .int .i64 f] 23))) := Lib.hid ((below_step B0.out hb B0.out.size).alloc (below_step B0.out hb B0.out.size).size _)
  have Hx1 := Lib.hid ((Hx0.out.below hb).alloc (.cells #[.bool true, .bool false, .bool true, .int .i64 f] 23))
  have Ha1 : Hid (EntAt (w1.alloc (.cells #[.bool true, .bool false, .bool true, .int .i64 f] 23)) w1.heap.size true false true f) := Lib.hid (EntAt.new ..)
  clear hb
  obtain ⟨x0, x1, x2, x3⟩ := Hx1.out
  obtain ⟨a0, a1, a2, a3⟩ := Ha1.out
  go_wp2_with fail
  refine (fork_copy f _ HA.out).mono ?_
  rintro e w2 ⟨rfl, hb⟩
  clear x0 x1 x2 x3 a0 a1 a2 a3
  have B2 : Hid (Below W.heap.size W (w2.alloc (.cells #[.bool true, .bool false, .bool true, .int .i64 f] 23))) := Lib.hid ((below_step B1.out hb B1.out.size).alloc (below_step B1.out hb B1.out.size).size _)
  have Hx2 := Lib.hid ((Hx1.out.below hb).alloc (.cells #[.bool true, .bool false, .bool true, .int .i64 f] 23))
  have Ha2 := Lib.hid ((Ha1.out.below hb).alloc (.cells #[.bool true, .bool false, .bool true, .int .i64 f] 23))
  have Hb2 : Hid (EntAt (w2.alloc (.cells #[.bool true, .bool false, .bool true, .int .i64 f] 23)) w2.heap.size true false true f) := Lib.hid (EntAt.new ..)
  clear hb
  obtain ⟨x0, x1, x2, x3⟩ := Hx2.out
  obtain ⟨a0, a1, a2, a3⟩ := Ha2.out
  obtain ⟨b0, b1, b2, b3⟩ := Hb2.out
  go_wp2_with fail
  refine (write_own f _ HA.out).mono ?_
  rintro e w3 ⟨rfl, hb⟩
  clear x0 x1 x2 x3 a0 a1 a2 a3 b0 b1 b2 b3
  have B3 := Lib.hid (below_step B2.out hb B2.out.size)
  have Hx3 := Lib.hid ((Hx2.out.below hb))
  have Ha3 := Lib.hid ((Ha2.out.below hb))
  have Hb3 := Lib.hid ((Hb2.out.below hb))
  clear hb
  obtain ⟨x0, x1, x2, x3⟩ := Hx3.out
  obtain ⟨a0, a1, a2, a3⟩ := Ha3.out
  obtain ⟨b0, b1, b2, b3⟩ := Hb3.out
  go_wp2_with fail
  refine (set_few true false true f n x _ H.out HN.out).mono ?_
  rintro e w4 ⟨rfl, hb⟩
  clear x0 x1 x2 x3 a0 a1 a2 a3 b0 b1 b2 b3
  have B4 : Hid (Below W.heap.size W (w4.alloc (.cells #[.bool false, .bool false, .bool false, .int .i64 0] 23))) := Lib.hid ((below_step B3.out hb B3.out.size).alloc (below_step B3.out hb B3.out.size).size _)
  have Hx4 := Lib.hid ((Hx3.out.below hb).alloc (.cells #[.bool false, .bool false, .bool false, .int .i64 0] 23))
  have Ha4 := Lib.hid ((Ha3.out.below hb).alloc (.cells #[.bool false, .bool false, .bool false, .int .i64 0] 23))
  have Hb4 := Lib.hid ((Hb3.out.below hb).alloc (.cells #[.bool false, .bool false, .bool false, .int .i64 0] 23))
  have Hs4 : Hid (EntAt (w4.alloc (.cells #[.bool false, .bool false, .bool false, .int .i64 0] 23)) w4.heap.size false false false 0) := Lib.hid (EntAt.new ..)
  clear hb
  obtain ⟨x0, x1, x2, x3⟩ := Hx4.out
  obtain ⟨a0, a1, a2, a3⟩ := Ha4.out
  obtain ⟨b0, b1, b2, b3⟩ := Hb4.out
  obtain ⟨s0, s1, s2, s3⟩ := Hs4.out
  go_wp2_with fail
  refine (awake15 _).mono ?_
  rintro e w5 ⟨rfl, hb⟩
  clear x0 x1 x2 x3 a0 a1 a2 a3 b0 b1 b2 b3 s0 s1 s2 s3
  have B5 := Lib.hid (below_step B4.out hb B4.out.size)
  have Hx5 := Lib.hid ((Hx4.out.below hb))
  have Ha5 := Lib.hid ((Ha4.out.below hb))
  have Hb5 := Lib.hid ((Hb4.out.below hb))
  have Hs5 := Lib.hid ((Hs4.out.below hb))
  clear hb
  obtain ⟨x0, x1, x2, x3⟩ := Hx5.out
  obtain ⟨a0, a1, a2, a3⟩ := Ha5.out
  obtain ⟨b0, b1, b2, b3⟩ := Hb5.out
  obtain ⟨s0, s1, s2, s3⟩ := Hs5.out
  go_wp2
  go_ret
  exact ⟨rfl, B5.out⟩
set_option maxHeartbeats 4000000 in
theorem cowNever_copy_onef (f : Int) (W : World) (h : pgE true false true f = true) : Calls Try.prog 6 #[ent true false true f, .int .i64 1, .bool false] W fun e w' => e = .returned (.bool true) ∧ Below W.heap.size W w' := by
  have HA : Hid (pgE true false true f = true) := Lib.hid (pgE_of h)
  have HW : Hid (pgE true true false f = true) := Lib.hid (pgE_of h)
  have HC : Hid (pgE true false true f = true) := Lib.hid (pgE_of h)
  have HR : Hid (pgE true false false f = true) := Lib.hid (pgE_of h)
  have H := Lib.hid h
  clear h
  go_enter Try.func6, Try.ntmps6
  have B0 : Hid (Below W.heap.size W (W.alloc (.cells #[.bool true, .bool false, .bool true, .int .i64 f] 23))) := Lib.hid ((Below.refl _ _).alloc (Nat.le_refl _) _)
  have Hx0 : Hid (EntAt (W.alloc (.cells #[.bool true, .bool false, .bool true, .int .i64 f] 23)) W.heap.size true false true f) := Lib.hid (EntAt.new ..)
  go_wp2_with fail
  refine (fork_copy f _ H.out).mono ?_
  rintro e w1 ⟨rfl, hb⟩
  have B1 : Hid (Below W.heap.size W (w1.alloc (.cells #[.bool true, .bool false, .bool true, .int .i64 f] 23))) := Lib.hid ((below_step B0.out hb B0.out.size).alloc (below_step B0.out hb B0.out.size).size _)
  have Hx1 := Lib.hid ((Hx0.out.below hb).alloc (.cells #[.bool true, .bool false, .bool true, .int .i64 f] 23))
  have Ha1 : Hid (EntAt (w1.alloc (.cells #[.bool true, .bool false, .bool true, .int .i64 f] 23)) w1.heap.size true false true f) := Lib.hid (EntAt.new ..)
  clear hb
  obtain ⟨x0, x1, x2, x3⟩ := Hx1.out
  obtain ⟨a0, a1, a2, a3⟩ := Ha1.out
  go_wp2_with fail
  refine (fork_copy f _ HA.out).mono ?_
  rintro e w2 ⟨rfl, hb⟩
  clear x0 x1 x2 x3 a0 a1 a2 a3
  have B2 : Hid (Below W.heap.size W (w2.alloc (.cells #[.bool true, .bool false, .bool true, .int .i64 f] 23))) := Lib.hid ((below_step B1.out hb B1.out.size).alloc (below_step B1.out hb B1.out.size).size _)
  have Hx2 := Lib.hid ((Hx1.out.below hb).alloc (.cells #[.bool true, .bool false, .bool true, .int .i64 f] 23))
  have Ha2 := Lib.hid ((Ha1.out.below hb).alloc (.cells #[.bool true, .bool false, .bool true, .int .i64 f] 23))
  have Hb2 : Hid (EntAt (w2.alloc (.cells #[.bool true, .bool false, .bool true, .int .i64 f] 23)) w2.heap.size true false true f) := Lib.hid (EntAt.new ..)
  clear hb
  obtain ⟨x0, x1, x2, x3⟩ := Hx2.out
  obtain ⟨a0, a1, a2, a3⟩ := Ha2.out
  obtain ⟨b0, b1, b2, b3⟩ := Hb2.out
  go_wp2_with fail
  refine (write_own f _ HA.out).mono ?_
  rintro e w3 ⟨rfl, hb⟩
  clear x0 x1 x2 x3 a0 a1 a2 a3 b0 b1 b2 b3
  have B3 := Lib.hid (below_step B2.out hb B2.out.size)
  have Hx3 := Lib.hid ((Hx2.out.below hb))
  have Ha3 := Lib.hid ((Ha2.out.below hb))
  have Hb3 := Lib.hid ((Hb2.out.below hb))
  clear hb
  obtain ⟨x0, x1, x2, x3⟩ := Hx3.out
  obtain ⟨a0, a1, a2, a3⟩ := Ha3.out
  obtain ⟨b0, b1, b2, b3⟩ := Hb3.out
  go_wp2_with fail
  refine (set_read false true f 1 _ H.out (by decide)).mono ?_
  rintro e w4 ⟨rfl, hb⟩
  clear x0 x1 x2 x3 a0 a1 a2 a3 b0 b1 b2 b3
  have B4 : Hid (Below W.heap.size W (w4.alloc (.cells #[.bool true, .bool false, .bool false, .int .i64 f] 23))) := Lib.hid ((below_step B3.out hb B3.out.size).alloc (below_step B3.out hb B3.out.size).size _)
  have Hx4 := Lib.hid ((Hx3.out.below hb).alloc (.cells #[.bool true, .bool false, .bool false, .int .i64 f] 23))
  have Ha4 := Lib.hid ((Ha3.out.below hb).alloc (.cells #[.bool true, .bool false, .bool false, .int .i64 f] 23))
  have Hb4 := Lib.hid ((Hb3.out.below hb).alloc (.cells #[.bool true, .bool false, .bool false, .int .i64 f] 23))
  have Hs4 : Hid (EntAt (w4.alloc (.cells #[.bool true, .bool false, .bool false, .int .i64 f] 23)) w4.heap.size true false false f) := Lib.hid (EntAt.new ..)
  clear hb
  obtain ⟨x0, x1, x2, x3⟩ := Hx4.out
  obtain ⟨a0, a1, a2, a3⟩ := Ha4.out
  obtain ⟨b0, b1, b2, b3⟩ := Hb4.out
  obtain ⟨s0, s1, s2, s3⟩ := Hs4.out
  go_wp2_with fail
  refine (write_read f 1 _ HR.out (by decide)).mono ?_
  rintro e w5 ⟨rfl, hb⟩
  clear x0 x1 x2 x3 a0 a1 a2 a3 b0 b1 b2 b3 s0 s1 s2 s3
  have B5 := Lib.hid (below_step B4.out hb B4.out.size)
  have Hx5 := Lib.hid ((Hx4.out.below hb))
  have Ha5 := Lib.hid ((Ha4.out.below hb))
  have Hb5 := Lib.hid ((Hb4.out.below hb))
  have Hs5 := Lib.hid ((Hs4.out.below hb))
  clear hb
  obtain ⟨x0, x1, x2, x3⟩ := Hx5.out
  obtain ⟨a0, a1, a2, a3⟩ := Ha5.out
  obtain ⟨b0, b1, b2, b3⟩ := Hb5.out
  obtain ⟨s0, s1, s2, s3⟩ := Hs5.out
  go_wp2_with fail
  refine (awake15 _).mono ?_
  rintro e w6 ⟨rfl, hb⟩
  clear x0 x1 x2 x3 a0 a1 a2 a3 b0 b1 b2 b3 s0 s1 s2 s3
  have B6 := Lib.hid (below_step B5.out hb B5.out.size)
  have Hx6 := Lib.hid ((Hx5.out.below hb))
  have Ha6 := Lib.hid ((Ha5.out.below hb))
  have Hb6 := Lib.hid ((Hb5.out.below hb))
  have Hs6 := Lib.hid ((Hs5.out.below hb))
  clear hb
  obtain ⟨x0, x1, x2, x3⟩ := Hx6.out
  obtain ⟨a0, a1, a2, a3⟩ := Ha6.out
  obtain ⟨b0, b1, b2, b3⟩ := Hb6.out
  obtain ⟨s0, s1, s2, s3⟩ := Hs6.out
  go_wp2
  go_ret
  exact ⟨rfl, B6.out⟩
set_option maxHeartbeats 4000000 in
theorem cowNever_copy_onet (f : Int) (W : World) (h : pgE true false true f = true) : Calls Try.prog 6 #[ent true false true f, .int .i64 1, .bool true] W fun e w' => e = .returned (.bool true) ∧ Below W.heap.size W w' := by
  have HA : Hid (pgE true false true f = true) := Lib.hid (pgE_of h)
  have HW : Hid (pgE true true false f = true) := Lib.hid (pgE_of h)
  have HC : Hid (pgE true false true f = true) := Lib.hid (pgE_of h)
  have HR : Hid (pgE true false false f = true) := Lib.hid (pgE_of h)
  have H := Lib.hid h
  clear h
  go_enter Try.func6, Try.ntmps6
  have B0 : Hid (Below W.heap.size W (W.alloc (.cells #[.bool true, .bool false, .bool true, .int .i64 f] 23))) := Lib.hid ((Below.refl _ _).alloc (Nat.le_refl _) _)
  have Hx0 : Hid (EntAt (W.alloc (.cells #[.bool true, .bool false, .bool true, .int .i64 f] 23)) W.heap.size true false true f) := Lib.hid (EntAt.new ..)
  go_wp2_with fail
  refine (fork_copy f _ H.out).mono ?_
  rintro e w1 ⟨rfl, hb⟩
  have B1 : Hid (Below W.heap.size W (w1.alloc (.cells #[.bool true, .bool false, .bool true, .int .i64 f] 23))) := Lib.hid ((below_step B0.out hb B0.out.size).alloc (below_step B0.out hb B0.out.size).size _)
  have Hx1 := Lib.hid ((Hx0.out.below hb).alloc (.cells #[.bool true, .bool false, .bool true, .int .i64 f] 23))
  have Ha1 : Hid (EntAt (w1.alloc (.cells #[.bool true, .bool false, .bool true, .int .i64 f] 23)) w1.heap.size true false true f) := Lib.hid (EntAt.new ..)
  clear hb
  obtain ⟨x0, x1, x2, x3⟩ := Hx1.out
  obtain ⟨a0, a1, a2, a3⟩ := Ha1.out
  go_wp2_with fail
  refine (fork_copy f _ HA.out).mono ?_
  rintro e w2 ⟨rfl, hb⟩
  clear x0 x1 x2 x3 a0 a1 a2 a3
  have B2 : Hid (Below W.heap.size W (w2.alloc (.cells #[.bool true, .bool false, .bool true, .int .i64 f] 23))) := Lib.hid ((below_step B1.out hb B1.out.size).alloc (below_step B1.out hb B1.out.size).size _)
  have Hx2 := Lib.hid ((Hx1.out.below hb).alloc (.cells #[.bool true, .bool false, .bool true, .int .i64 f] 23))
  have Ha2 := Lib.hid ((Ha1.out.below hb).alloc (.cells #[.bool true, .bool false, .bool true, .int .i64 f] 23))
  have Hb2 : Hid (EntAt (w2.alloc (.cells #[.bool true, .bool false, .bool true, .int .i64 f] 23)) w2.heap.size true false true f) := Lib.hid (EntAt.new ..)
  clear hb
  obtain ⟨x0, x1, x2, x3⟩ := Hx2.out
  obtain ⟨a0, a1, a2, a3⟩ := Ha2.out
  obtain ⟨b0, b1, b2, b3⟩ := Hb2.out
  go_wp2_with fail
  refine (write_own f _ HA.out).mono ?_
  rintro e w3 ⟨rfl, hb⟩
  clear x0 x1 x2 x3 a0 a1 a2 a3 b0 b1 b2 b3
  have B3 := Lib.hid (below_step B2.out hb B2.out.size)
  have Hx3 := Lib.hid ((Hx2.out.below hb))
  have Ha3 := Lib.hid ((Ha2.out.below hb))
  have Hb3 := Lib.hid ((Hb2.out.below hb))
  clear hb
  obtain ⟨x0, x1, x2, x3⟩ := Hx3.out
  obtain ⟨a0, a1, a2, a3⟩ := Ha3.out
  obtain ⟨b0, b1, b2, b3⟩ := Hb3.out
  go_wp2_with fail
  refine (set_write false true f _ H.out).mono ?_
  rintro e w4 ⟨rfl, hb⟩
  clear x0 x1 x2 x3 a0 a1 a2 a3 b0 b1 b2 b3
  have B4 : Hid (Below W.heap.size W (w4.alloc (.cells #[.bool true, .bool true, .bool false, .int .i64 f] 23))) := Lib.hid ((below_step B3.out hb B3.out.size).alloc (below_step B3.out hb B3.out.size).size _)
  have Hx4 := Lib.hid ((Hx3.out.below hb).alloc (.cells #[.bool true, .bool true, .bool false, .int .i64 f] 23))
  have Ha4 := Lib.hid ((Ha3.out.below hb).alloc (.cells #[.bool true, .bool true, .bool false, .int .i64 f] 23))
  have Hb4 := Lib.hid ((Hb3.out.below hb).alloc (.cells #[.bool true, .bool true, .bool false, .int .i64 f] 23))
  have Hs4 : Hid (EntAt (w4.alloc (.cells #[.bool true, .bool true, .bool false, .int .i64 f] 23)) w4.heap.size true true false f) := Lib.hid (EntAt.new ..)
  clear hb
  obtain ⟨x0, x1, x2, x3⟩ := Hx4.out
  obtain ⟨a0, a1, a2, a3⟩ := Ha4.out
  obtain ⟨b0, b1, b2, b3⟩ := Hb4.out
  obtain ⟨s0, s1, s2, s3⟩ := Hs4.out
  go_wp2_with fail
  refine (write_write f 1 _ HW.out (by decide)).mono ?_
  rintro e w5 ⟨rfl, hb⟩
  clear x0 x1 x2 x3 a0 a1 a2 a3 b0 b1 b2 b3 s0 s1 s2 s3
  have B5 := Lib.hid (below_step B4.out hb B4.out.size)
  have Hx5 := Lib.hid ((Hx4.out.below hb))
  have Ha5 := Lib.hid ((Ha4.out.below hb))
  have Hb5 := Lib.hid ((Hb4.out.below hb))
  have Hs5 := Lib.hid ((Hs4.out.below hb))
  clear hb
  obtain ⟨x0, x1, x2, x3⟩ := Hx5.out
  obtain ⟨a0, a1, a2, a3⟩ := Ha5.out
  obtain ⟨b0, b1, b2, b3⟩ := Hb5.out
  obtain ⟨s0, s1, s2, s3⟩ := Hs5.out
  go_wp2_with fail
  refine (awake15 _).mono ?_
  rintro e w6 ⟨rfl, hb⟩
  clear x0 x1 x2 x3 a0 a1 a2 a3 b0 b1 b2 b3 s0 s1 s2 s3
  have B6 := Lib.hid (below_step B5.out hb B5.out.size)
  have Hx6 := Lib.hid ((Hx5.out.below hb))
  have Ha6 := Lib.hid ((Ha5.out.below hb))
  have Hb6 := Lib.hid ((Hb5.out.below hb))
  have Hs6 := Lib.hid ((Hs5.out.below hb))
  clear hb
  obtain ⟨x0, x1, x2, x3⟩ := Hx6.out
  obtain ⟨a0, a1, a2, a3⟩ := Ha6.out
  obtain ⟨b0, b1, b2, b3⟩ := Hb6.out
  obtain ⟨s0, s1, s2, s3⟩ := Hs6.out
  go_wp2
  go_ret
  exact ⟨rfl, B6.out⟩
set_option maxHeartbeats 4000000 in
theorem cowNever_copy_manyf (f n : Int) (W : World) (h : pgE true false true f = true) (hn : 1 < n) : Calls Try.prog 6 #[ent true false true f, .int .i64 n, .bool false] W fun e w' => e = .returned (.bool true) ∧ Below W.heap.size W w' := by
  have HA : Hid (pgE true false true f = true) := Lib.hid (pgE_of h)
  have HW : Hid (pgE true true false f = true) := Lib.hid (pgE_of h)
  have HC : Hid (pgE true false true f = true) := Lib.hid (pgE_of h)
  have HR : Hid (pgE true false false f = true) := Lib.hid (pgE_of h)
  have H := Lib.hid h
  clear h
  have HN := Lib.hid hn
  have HM : Hid (1 ≤ n) := Lib.hid (by omega)
  have m1 : ¬ n < 1 := by omega
  have m2 : ¬ n ≤ 1 := by omega
  go_enter Try.func6, Try.ntmps6
  have B0 : Hid (Below W.heap.size W (W.alloc (.cells #[.bool true, .bool false, .bool true, .int .i64 f] 23))) := Lib.hid ((Below.refl _ _).alloc (Nat.le_refl _) _)
  have Hx0 : Hid (EntAt (W.alloc (.cells #[.bool true, .bool false, .bool true, .int .i64 f] 23)) W.heap.size true false true f) := Lib.hid (EntAt.new ..)
  go_wp2_with fail
  refine (fork_copy f _ H.out).mono ?_
  rintro e w1 ⟨rfl, hb⟩
  have B1 : Hid (Below W.heap.size W (w1.alloc (.cells #[.bool true, .bool false, .bool true, .int .i64 f] 23))) := Lib.hid ((below_step B0.out hb B0.out.size).alloc (below_step B0.out hb B0.out.size).size _)
  have Hx1 := Lib.hid ((Hx0.out.below hb).alloc (.cells #[.bool true, .bool false, .bool true, .int .i64 f] 23))
  have Ha1 : Hid (EntAt (w1.alloc (.cells #[.bool true, .bool false, .bool true, .int .i64 f] 23)) w1.heap.size true false true f) := Lib.hid (EntAt.new ..)
  clear hb
  obtain ⟨x0, x1, x2, x3⟩ := Hx1.out
  obtain ⟨a0, a1, a2, a3⟩ := Ha1.out
  go_wp2_with fail
  refine (fork_copy f _ HA.out).mono ?_
  rintro e w2 ⟨rfl, hb⟩
  clear x0 x1 x2 x3 a0 a1 a2 a3
  have B2 : Hid (Below W.heap.size W (w2.alloc (.cells #[.bool true, .bool false, .bool true, .int .i64 f] 23))) := Lib.hid ((below_step B1.out hb B1.out.size).alloc (below_step B1.out hb B1.out.size).size _)
  have Hx2 := Lib.hid ((Hx1.out.below hb).alloc (.cells #[.bool true, .bool false, .bool true, .int .i64 f] 23))
  have Ha2 := Lib.hid ((Ha1.out.below hb).alloc (.cells #[.bool true, .bool false, .bool true, .int .i64 f] 23))
  have Hb2 : Hid (EntAt (w2.alloc (.cells #[.bool true, .bool false, .bool true, .int .i64 f] 23)) w2.heap.size true false true f) := Lib.hid (EntAt.new ..)
  clear hb
  obtain ⟨x0, x1, x2, x3⟩ := Hx2.out
  obtain ⟨a0, a1, a2, a3⟩ := Ha2.out
  obtain ⟨b0, b1, b2, b3⟩ := Hb2.out
  go_wp2_with fail
  refine (write_many f n _ HA.out HN.out).mono ?_
  rintro e w3 ⟨rfl, hb⟩
  clear x0 x1 x2 x3 a0 a1 a2 a3 b0 b1 b2 b3
  have B3 := Lib.hid (below_step B2.out hb B2.out.size)
  have Hx3 := Lib.hid ((Hx2.out.below hb))
  have Ha3 := Lib.hid ((Ha2.out.below hb))
  have Hb3 := Lib.hid ((Hb2.out.below hb))
  clear hb
  obtain ⟨x0, x1, x2, x3⟩ := Hx3.out
  obtain ⟨a0, a1, a2, a3⟩ := Ha3.out
  obtain ⟨b0, b1, b2, b3⟩ := Hb3.out
  go_wp2_with fail
  refine (set_read false true f n _ H.out HM.out).mono ?_
  rintro e w4 ⟨rfl, hb⟩
  clear x0 x1 x2 x3 a0 a1 a2 a3 b0 b1 b2 b3
  have B4 : Hid (Below W.heap.size W (w4.alloc (.cells #[.bool true, .bool false, .bool false, .int .i64 f] 23))) := Lib.hid ((below_step B3.out hb B3.out.size).alloc (below_step B3.out hb B3.out.size).size _)
  have Hx4 := Lib.hid ((Hx3.out.below hb).alloc (.cells #[.bool true, .bool false, .bool false, .int .i64 f] 23))
  have Ha4 := Lib.hid ((Ha3.out.below hb).alloc (.cells #[.bool true, .bool false, .bool false, .int .i64 f] 23))
  have Hb4 := Lib.hid ((Hb3.out.below hb).alloc (.cells #[.bool true, .bool false, .bool false, .int .i64 f] 23))
  have Hs4 : Hid (EntAt (w4.alloc (.cells #[.bool true, .bool false, .bool false, .int .i64 f] 23)) w4.heap.size true false false f) := Lib.hid (EntAt.new ..)
  clear hb
  obtain ⟨x0, x1, x2, x3⟩ := Hx4.out
  obtain ⟨a0, a1, a2, a3⟩ := Ha4.out
  obtain ⟨b0, b1, b2, b3⟩ := Hb4.out
  obtain ⟨s0, s1, s2, s3⟩ := Hs4.out
  go_wp2_with fail
  refine (write_read f n _ HR.out HM.out).mono ?_
  rintro e w5 ⟨rfl, hb⟩
  clear x0 x1 x2 x3 a0 a1 a2 a3 b0 b1 b2 b3 s0 s1 s2 s3
  have B5 := Lib.hid (below_step B4.out hb B4.out.size)
  have Hx5 := Lib.hid ((Hx4.out.below hb))
  have Ha5 := Lib.hid ((Ha4.out.below hb))
  have Hb5 := Lib.hid ((Hb4.out.below hb))
  have Hs5 := Lib.hid ((Hs4.out.below hb))
  clear hb
  obtain ⟨x0, x1, x2, x3⟩ := Hx5.out
  obtain ⟨a0, a1, a2, a3⟩ := Ha5.out
  obtain ⟨b0, b1, b2, b3⟩ := Hb5.out
  obtain ⟨s0, s1, s2, s3⟩ := Hs5.out
  go_wp2_with fail
  refine (awake15 _).mono ?_
  rintro e w6 ⟨rfl, hb⟩
  clear x0 x1 x2 x3 a0 a1 a2 a3 b0 b1 b2 b3 s0 s1 s2 s3
  have B6 := Lib.hid (below_step B5.out hb B5.out.size)
  have Hx6 := Lib.hid ((Hx5.out.below hb))
  have Ha6 := Lib.hid ((Ha5.out.below hb))
  have Hb6 := Lib.hid ((Hb5.out.below hb))
  have Hs6 := Lib.hid ((Hs5.out.below hb))
  clear hb
  obtain ⟨x0, x1, x2, x3⟩ := Hx6.out
  obtain ⟨a0, a1, a2, a3⟩ := Ha6.out
  obtain ⟨b0, b1, b2, b3⟩ := Hb6.out
  obtain ⟨s0, s1, s2, s3⟩ := Hs6.out
  go_wp2
  go_ret
  exact ⟨rfl, B6.out⟩
set_option maxHeartbeats 4000000 in
theorem cowNever_copy_manyt (f n : Int) (W : World) (h : pgE true false true f = true) (hn : 1 < n) : Calls Try.prog 6 #[ent true false true f, .int .i64 n, .bool true] W fun e w' => e = .returned (.bool true) ∧ Below W.heap.size W w' := by
  have HA : Hid (pgE true false true f = true) := Lib.hid (pgE_of h)
  have HW : Hid (pgE true true false f = true) := Lib.hid (pgE_of h)
  have HC : Hid (pgE true false true f = true) := Lib.hid (pgE_of h)
  have HR : Hid (pgE true false false f = true) := Lib.hid (pgE_of h)
  have H := Lib.hid h
  clear h
  have HN := Lib.hid hn
  have HM : Hid (1 ≤ n) := Lib.hid (by omega)
  have m1 : ¬ n < 1 := by omega
  have m2 : ¬ n ≤ 1 := by omega
  go_enter Try.func6, Try.ntmps6
  have B0 : Hid (Below W.heap.size W (W.alloc (.cells #[.bool true, .bool false, .bool true, .int .i64 f] 23))) := Lib.hid ((Below.refl _ _).alloc (Nat.le_refl _) _)
  have Hx0 : Hid (EntAt (W.alloc (.cells #[.bool true, .bool false, .bool true, .int .i64 f] 23)) W.heap.size true false true f) := Lib.hid (EntAt.new ..)
  go_wp2_with fail
  refine (fork_copy f _ H.out).mono ?_
  rintro e w1 ⟨rfl, hb⟩
  have B1 : Hid (Below W.heap.size W (w1.alloc (.cells #[.bool true, .bool false, .bool true, .int .i64 f] 23))) := Lib.hid ((below_step B0.out hb B0.out.size).alloc (below_step B0.out hb B0.out.size).size _)
  have Hx1 := Lib.hid ((Hx0.out.below hb).alloc (.cells #[.bool true, .bool false, .bool true, .int .i64 f] 23))
  have Ha1 : Hid (EntAt (w1.alloc (.cells #[.bool true, .bool false, .bool true, .int .i64 f] 23)) w1.heap.size true false true f) := Lib.hid (EntAt.new ..)
  clear hb
  obtain ⟨x0, x1, x2, x3⟩ := Hx1.out
  obtain ⟨a0, a1, a2, a3⟩ := Ha1.out
  go_wp2_with fail
  refine (fork_copy f _ HA.out).mono ?_
  rintro e w2 ⟨rfl, hb⟩
  clear x0 x1 x2 x3 a0 a1 a2 a3
  have B2 : Hid (Below W.heap.size W (w2.alloc (.cells #[.bool true, .bool false, .bool true, .int .i64 f] 23))) := Lib.hid ((below_step B1.out hb B1.out.size).alloc (below_step B1.out hb B1.out.size).size _)
  have Hx2 := Lib.hid ((Hx1.out.below hb).alloc (.cells #[.bool true, .bool false, .bool true, .int .i64 f] 23))
  have Ha2 := Lib.hid ((Ha1.out.below hb).alloc (.cells #[.bool true, .bool false, .bool true, .int .i64 f] 23))
  have Hb2 : Hid (EntAt (w2.alloc (.cells #[.bool true, .bool false, .bool true, .int .i64 f] 23)) w2.heap.size true false true f) := Lib.hid (EntAt.new ..)
  clear hb
  obtain ⟨x0, x1, x2, x3⟩ := Hx2.out
  obtain ⟨a0, a1, a2, a3⟩ := Ha2.out
  obtain ⟨b0, b1, b2, b3⟩ := Hb2.out
  go_wp2_with fail
  refine (write_many f n _ HA.out HN.out).mono ?_
  rintro e w3 ⟨rfl, hb⟩
  clear x0 x1 x2 x3 a0 a1 a2 a3 b0 b1 b2 b3
  have B3 := Lib.hid (below_step B2.out hb B2.out.size)
  have Hx3 := Lib.hid ((Hx2.out.below hb))
  have Ha3 := Lib.hid ((Ha2.out.below hb))
  have Hb3 := Lib.hid ((Hb2.out.below hb))
  clear hb
  obtain ⟨x0, x1, x2, x3⟩ := Hx3.out
  obtain ⟨a0, a1, a2, a3⟩ := Ha3.out
  obtain ⟨b0, b1, b2, b3⟩ := Hb3.out
  go_wp2_with fail
  refine (set_copy false true f n _ H.out HN.out).mono ?_
  rintro e w4 ⟨rfl, hb⟩
  clear x0 x1 x2 x3 a0 a1 a2 a3 b0 b1 b2 b3
  have B4 : Hid (Below W.heap.size W (w4.alloc (.cells #[.bool true, .bool false, .bool true, .int .i64 f] 23))) := Lib.hid ((below_step B3.out hb B3.out.size).alloc (below_step B3.out hb B3.out.size).size _)
  have Hx4 := Lib.hid ((Hx3.out.below hb).alloc (.cells #[.bool true, .bool false, .bool true, .int .i64 f] 23))
  have Ha4 := Lib.hid ((Ha3.out.below hb).alloc (.cells #[.bool true, .bool false, .bool true, .int .i64 f] 23))
  have Hb4 := Lib.hid ((Hb3.out.below hb).alloc (.cells #[.bool true, .bool false, .bool true, .int .i64 f] 23))
  have Hs4 : Hid (EntAt (w4.alloc (.cells #[.bool true, .bool false, .bool true, .int .i64 f] 23)) w4.heap.size true false true f) := Lib.hid (EntAt.new ..)
  clear hb
  obtain ⟨x0, x1, x2, x3⟩ := Hx4.out
  obtain ⟨a0, a1, a2, a3⟩ := Ha4.out
  obtain ⟨b0, b1, b2, b3⟩ := Hb4.out
  obtain ⟨s0, s1, s2, s3⟩ := Hs4.out
  go_wp2_with fail
  refine (write_many f n _ HC.out HN.out).mono ?_
  rintro e w5 ⟨rfl, hb⟩
  clear x0 x1 x2 x3 a0 a1 a2 a3 b0 b1 b2 b3 s0 s1 s2 s3
  have B5 := Lib.hid (below_step B4.out hb B4.out.size)
  have Hx5 := Lib.hid ((Hx4.out.below hb))
  have Ha5 := Lib.hid ((Ha4.out.below hb))
  have Hb5 := Lib.hid ((Hb4.out.below hb))
  have Hs5 := Lib.hid ((Hs4.out.below hb))
  clear hb
  obtain ⟨x0, x1, x2, x3⟩ := Hx5.out
  obtain ⟨a0, a1, a2, a3⟩ := Ha5.out
  obtain ⟨b0, b1, b2, b3⟩ := Hb5.out
  obtain ⟨s0, s1, s2, s3⟩ := Hs5.out
  go_wp2_with fail
  refine (awake15 _).mono ?_
  rintro e w6 ⟨rfl, hb⟩
  clear x0 x1 x2 x3 a0 a1 a2 a3 b0 b1 b2 b3 s0 s1 s2 s3
  have B6 := Lib.hid (below_step B5.out hb B5.out.size)
  have Hx6 := Lib.hid ((Hx5.out.below hb))
  have Ha6 := Lib.hid ((Ha5.out.below hb))
  have Hb6 := Lib.hid ((Hb5.out.below hb))
  have Hs6 := Lib.hid ((Hs5.out.below hb))
  clear hb
  obtain ⟨x0, x1, x2, x3⟩ := Hx6.out
  obtain ⟨a0, a1, a2, a3⟩ := Ha6.out
  obtain ⟨b0, b1, b2, b3⟩ := Hb6.out
  obtain ⟨s0, s1, s2, s3⟩ := Hs6.out
  go_wp2
  go_ret
  exact ⟨rfl, B6.out⟩
theorem cowNever_walk (p w c : Bool) (f n : Int) (x : Bool) (W : World) (_hf : -9223372036854775808 ≤ f ∧ f ≤ 9223372036854775807) (_hn : -9223372036854775808 ≤ n ∧ n ≤ 9223372036854775807) : Calls Try.prog 6 #[ent p w c f, .int .i64 n, .bool x] W fun e w' => e = .returned (.bool true) ∧ Below W.heap.size W w' := by
  cases h : pgE p w c f
  · exact cowNever_no p w c f n x W h
  · obtain ⟨rfl, hwc, -, -⟩ := pgE_yes h
    cases w
    · cases c
      · by_cases hn : n < 1
        · exact cowNever_read_few f n x W h hn
        · by_cases h1 : n = 1
          · subst h1
            cases x
            · exact cowNever_read_onef f W h
            · exact cowNever_read_onet f W h
          · cases x
            · exact cowNever_read_manyf f n W h (by omega)
            · exact cowNever_read_manyt f n W h (by omega)
      · by_cases hn : n < 1
        · exact cowNever_copy_few f n x W h hn
        · by_cases h1 : n = 1
          · subst h1
            cases x
            · exact cowNever_copy_onef f W h
            · exact cowNever_copy_onet f W h
          · cases x
            · exact cowNever_copy_manyf f n W h (by omega)
            · exact cowNever_copy_manyt f n W h (by omega)
    · cases c
      · by_cases hn : n < 1
        · exact cowNever_write_few f n x W h hn
        · by_cases h1 : n = 1
          · subst h1
            cases x
            · exact cowNever_write_onef f W h
            · exact cowNever_write_onet f W h
          · cases x
            · exact cowNever_write_manyf f n W h (by omega)
            · exact cowNever_write_manyt f n W h (by omega)
      · simp at hwc
end Go.Proofs.Ytgalcafpkfakdaa
