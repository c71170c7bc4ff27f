/- The walk of the law WordBits. Conditions: the two tables read as laid. -/
import Derived.Test.YtfehchbllfjngaaDoorW11
namespace Go.Proofs.YtfehchbllfjngaaDoor
open Go.RowKit

/-- An entry's box, at block b. -/
structure Box (b : Nat) (p w c : Bool) (f : Int) (w1 : World) : Prop where
  lt : b < w1.heap.size
  c0 : w1.cell? ⟨b, 0, none⟩ = some (.bool p)
  c1 : w1.cell? ⟨b, 1, none⟩ = some (.bool w)
  c2 : w1.cell? ⟨b, 2, none⟩ = some (.bool c)
  c3 : w1.cell? ⟨b, 3, none⟩ = some (.int .i64 f)
theorem Box.step {b : Nat} {p w c : Bool} {f : Int} {w1 w2 : World} (h : Box b p w c f w1) (hb : Below w1.heap.size w1 w2) : Box b p w c f w2 :=
  ⟨Nat.lt_of_lt_of_le h.lt hb.size, (hb.cell (p := ⟨b, 0, none⟩) h.lt).trans h.c0, (hb.cell (p := ⟨b, 1, none⟩) h.lt).trans h.c1, (hb.cell (p := ⟨b, 2, none⟩) h.lt).trans h.c2, (hb.cell (p := ⟨b, 3, none⟩) h.lt).trans h.c3⟩
theorem Box.start (w1 : World) (p w c : Bool) (f : Int) (t : TypeId) : Box w1.heap.size p w c f (w1.alloc (.cells #[.bool p, .bool w, .bool c, .int .i64 f] t)) :=
  ⟨by simp, by simp, by simp, by simp, by simp⟩
theorem below_alloc (w : World) (o : Obj) : Below w.heap.size w (w.alloc o) := (Below.refl _ _).alloc (Nat.le_refl _) o

theorem xor_words (F G k : Nat) (hk : k < 256) : (256 * G + k) ^^^ (256 * F + k) = (G ^^^ F) * 256 := by
  apply Nat.eq_of_testBit_eq
  intro i
  rw [Nat.mul_comm (G ^^^ F) 256, show (256 : Nat) = 2 ^ 8 from rfl, Nat.testBit_xor, Nat.testBit_two_pow_mul_add _ hk, Nat.testBit_two_pow_mul_add _ hk, Nat.testBit_two_pow_mul, Nat.testBit_xor]
  by_cases h : i < 8
  · have h8 : ¬ 8 ≤ i := by omega
    simp [h, h8]
  · have : 8 ≤ i := by omega
    simp [h, this]
/-- Changing the frame changes the word by the frames' bits alone. -/
theorem xor_frames (w c : Bool) (f g : Int) (f0 : 0 ≤ f) (f1 : f < 1024) (g0 : 0 ≤ g) (g1 : g < 1024) : ∃ X : Int, 0 ≤ X ∧ X < 1024 ∧ bits BinOp.xor IntKind.u32 g f = X ∧ bits BinOp.xor IntKind.u32 (wordOf true w c g) (wordOf true w c f) = X * 256 := by
  obtain ⟨F, rfl⟩ := Int.eq_ofNat_of_zero_le f0
  obtain ⟨G, rfl⟩ := Int.eq_ofNat_of_zero_le g0
  have e : ∃ k : Nat, k < 256 ∧ (∀ h : Nat, wordOf true w c (h : Int) = ((256 * h + k : Nat) : Int)) := by
    cases w <;> cases c
    · exact ⟨1, by decide, fun h => by simp [wordOf, bit]⟩
    · exact ⟨5, by decide, fun h => by simp [wordOf, bit]; omega⟩
    · exact ⟨3, by decide, fun h => by simp [wordOf, bit]; omega⟩
    · exact ⟨7, by decide, fun h => by simp [wordOf, bit]; omega⟩
  obtain ⟨k, hk, e⟩ := e
  have hlt : G ^^^ F < 2 ^ 10 := Nat.xor_lt_two_pow (by omega) (by omega)
  refine ⟨((G ^^^ F : Nat) : Int), by omega, by omega, u32_xor_nat G F (by omega) (by omega), ?_⟩
  rw [e, e, u32_xor_nat _ _ (by omega) (by omega), xor_words F G k hk]
  omega
theorem ok_frame (w c : Bool) (f g : Int) (h : okE true w c f = true) (g0 : 0 ≤ g) (g1 : g < 1024) : okE true w c g = true := by
  simp [okE] at h ⊢
  exact ⟨⟨g0, g1⟩, h.2⟩
theorem ok_turn (w c : Bool) (f : Int) (h : okE true w c f = true) : okE true (!w) false f = true := by
  simp [okE] at h ⊢
  exact h.1

set_option maxRecDepth 100000 in
set_option maxHeartbeats 4000000 in
theorem lawBits_main (w c : Bool) (f g : Int) (W : World) (hok : okE true w c f = true) (g0 : 0 ≤ g) (g1 : g < 1024) (hL : LaidW W) : Calls Tryd.prog 10 #[ent true w c f, .int .i64 g] W fun e w' => e = .returned (.bool true) ∧ Below W.heap.size W w' := by
  have HL := Lib.hid hL
  obtain ⟨f0, f1⟩ := ok_lo hok
  obtain ⟨X, x0, x1, hx, hxw⟩ := xor_frames w c f g f0 f1 g0 g1
  have hoy := ok_frame w c f g hok g0 g1
  have hoz := ok_turn w c f hok
  have C1 := Lib.hid (fun W h => put_yes true w c f W hok h)
  have C2 := Lib.hid (fun W h => put_yes true w c g W hoy h)
  have C3 := Lib.hid (fun W h => put_yes true (!w) false f W hoz h)
  have C4 := Lib.hid (fun W h => get_put true w c g W hoy h)
  have C5 := Lib.hid (fun W h => get_put true (!w) false f W hoz h)
  have B0 := Lib.hid (below_alloc W (.cells #[.bool true, .bool w, .bool c, .int .i64 f] 23))
  have X0 := Lib.hid (Box.start W true w c f 23)
  clear hL hok hoy hoz
  go_enter Tryd.func10, Tryd.ntmps10
  go_wp2_with fail
  refine (C1.out _ (by exact HL.out.below B0.out)).mono ?_
  rintro e w1 ⟨rfl, hb⟩
  have X1 := Lib.hid (X0.out.step hb)
  have B1 := Lib.hid (B0.out.trans (hb.mono B0.out.size))
  clear hb X0 B0
  have k0 := X1.out.c0
  have k1 := X1.out.c1
  have k2 := X1.out.c2
  have k3 := X1.out.c3
  have kz := X1.out.lt
  go_wp2_with fail
  clear k0 k1 k2 k3 kz
  have D1 := Lib.hid (below_alloc w1 (.cells #[.bool true, .bool w, .bool c, .int .i64 g] 23))
  have Y1 := Lib.hid (Box.start w1 true w c g 23)
  have X2 := Lib.hid (X1.out.step D1.out)
  have B2 := Lib.hid (B1.out.trans (D1.out.mono B1.out.size))
  clear X1 B1 D1
  refine (C2.out _ (by exact HL.out.below B2.out)).mono ?_
  rintro e w2 ⟨rfl, hb⟩
  have X3 := Lib.hid (X2.out.step hb)
  have Y3 := Lib.hid (Y1.out.step hb)
  have B3 := Lib.hid (B2.out.trans (hb.mono B2.out.size))
  clear hb X2 Y1 B2
  have k0 := X3.out.c0
  have k1 := X3.out.c1
  have k2 := X3.out.c2
  have k3 := X3.out.c3
  have kz := X3.out.lt
  go_wp2_with fail
  clear k0 k1 k2 k3 kz
  have D1 := Lib.hid (below_alloc w2 (.cells #[.bool true, .bool (!w), .bool false, .int .i64 f] 23))
  have Z3 := Lib.hid (Box.start w2 true (!w) false f 23)
  have X4 := Lib.hid (X3.out.step D1.out)
  have Y4 := Lib.hid (Y3.out.step D1.out)
  have B4 := Lib.hid (B3.out.trans (D1.out.mono B3.out.size))
  clear X3 Y3 B3 D1
  refine (C3.out _ (by exact HL.out.below B4.out)).mono ?_
  rintro e w3 ⟨rfl, hb⟩
  have X5 := Lib.hid (X4.out.step hb)
  have Y5 := Lib.hid (Y4.out.step hb)
  have Z5 := Lib.hid (Z3.out.step hb)
  have B5 := Lib.hid (B4.out.trans (hb.mono B4.out.size))
  clear hb X4 Y4 Z3 B4
  go_wp2_with fail
  refine (C4.out _ (by exact HL.out.below B5.out)).mono ?_
  rintro e w4 ⟨rfl, hb⟩
  have X6 := Lib.hid (X5.out.step hb)
  have Y6 := Lib.hid (Y5.out.step hb)
  have Z6 := Lib.hid (Z5.out.step hb)
  have B6 := Lib.hid (B5.out.trans (hb.mono B5.out.size))
  clear hb X5 Y5 Z5 B5
  go_wp2_with fail
  have D1 := Lib.hid (below_alloc w4 (.cells #[.bool true, .bool w, .bool c, .int .i64 g] 23))
  have V6 := Lib.hid (Box.start w4 true w c g 23)
  have X7 := Lib.hid (X6.out.step D1.out)
  have Y7 := Lib.hid (Y6.out.step D1.out)
  have Z7 := Lib.hid (Z6.out.step D1.out)
  have B7 := Lib.hid (B6.out.trans (D1.out.mono B6.out.size))
  clear X6 Y6 Z6 B6 D1
  refine (C5.out _ (by exact HL.out.below B7.out)).mono ?_
  rintro e w5 ⟨rfl, hb⟩
  have X8 := Lib.hid (X7.out.step hb)
  have Y8 := Lib.hid (Y7.out.step hb)
  have Z8 := Lib.hid (Z7.out.step hb)
  have V8 := Lib.hid (V6.out.step hb)
  have B8 := Lib.hid (B7.out.trans (hb.mono B7.out.size))
  clear hb X7 Y7 Z7 V6 B7
  have k3 := X8.out.c3
  have kz := X8.out.lt
  have y0 := Y8.out.c0
  have y1 := Y8.out.c1
  have y2 := Y8.out.c2
  have y3 := Y8.out.c3
  have yz := Y8.out.lt
  have z0 := Z8.out.c0
  have z1 := Z8.out.c1
  have z2 := Z8.out.c2
  have z3 := Z8.out.c3
  have zz := Z8.out.lt
  have v0 := V8.out.c0
  have v1 := V8.out.c1
  have v2 := V8.out.c2
  have v3 := V8.out.c3
  have vz := V8.out.lt
  go_wp2_with fail
  clear k3 kz y0 y1 y2 y3 yz z0 z1 z2 z3 zz v0 v1 v2 v3 vz
  have D1 := Lib.hid (below_alloc w5 (.cells #[.bool true, .bool (!w), .bool false, .int .i64 f] 23))
  have B9 := Lib.hid (B8.out.trans (D1.out.mono B8.out.size))
  clear D1 B8
  refine (awake_any _ (by exact HL.out.below B9.out)).mono ?_
  rintro e w6 ⟨rfl, hb⟩
  have BA := Lib.hid (B9.out.trans (hb.mono B9.out.size))
  clear hb B9
  go_wp2
  go_ret
  exact ⟨rfl, BA.out⟩
/-- The ways on which it asks awake alone. -/
theorem lawBits_out (p w c : Bool) (f g : Int) (W : World) (h : okE p w c f = false ∨ p = false ∨ g < 0 ∨ 1024 ≤ g) (hL : LaidW W) : Calls Tryd.prog 10 #[ent p w c f, .int .i64 g] W fun e w' => e = .returned (.bool true) ∧ Below W.heap.size W w' := by
  have HL := Lib.hid hL
  have B0 := Lib.hid (below_alloc W (.cells #[.bool p, .bool w, .bool c, .int .i64 f] 23))
  have X0 := Lib.hid (Box.start W p w c f 23)
  have cx : ∃ v k : Int, (k = 2 ∨ (k = 0 ∧ (p = false ∨ g < 0 ∨ 1024 ≤ g))) ∧ ∀ W, LaidW W → Calls Tryd.prog 11 #[ent p w c f] W fun e w' => e = .returned (.tuple #[.int .u32 v, .int .i64 k]) ∧ Below W.heap.size W w' := by
    cases hoy : okE p w c f
    · exact ⟨0, 2, Or.inl rfl, fun W _ => put_no p w c f W hoy⟩
    · refine ⟨wordOf p w c f, 0, Or.inr ⟨rfl, ?_⟩, fun W h => put_yes p w c f W hoy h⟩
      rcases h with h | h
      · rw [hoy] at h
        cases h
      · exact h
  obtain ⟨v, k, hk, c1⟩ := cx
  have C1 := Lib.hid c1
  clear c1 hL h
  have t : k = 2 ∨ (k = 0 ∧ p = false) ∨ (k = 0 ∧ p = true ∧ g < 0) ∨ (k = 0 ∧ p = true ∧ 1024 ≤ g) := by
    rcases hk with h | ⟨h, h1⟩
    · exact Or.inl h
    · cases p
      · exact Or.inr (Or.inl ⟨h, rfl⟩)
      · rcases h1 with h1 | h1 | h1
        · cases h1
        · exact Or.inr (Or.inr (Or.inl ⟨h, rfl, h1⟩))
        · exact Or.inr (Or.inr (Or.inr ⟨h, rfl, h1⟩))
  clear hk
  rcases t with rfl | ⟨rfl, rfl⟩ | ⟨rfl, rfl, h⟩ | ⟨rfl, rfl, h⟩
  all_goals
    go_enter Tryd.func10, Tryd.ntmps10
    go_wp2_with fail
    refine (C1.out _ (by exact HL.out.below B0.out)).mono ?_
    rintro e w1 ⟨rfl, hb⟩
    have X1 := Lib.hid (X0.out.step hb)
    have B1 := Lib.hid (B0.out.trans (hb.mono B0.out.size))
    clear hb X0 B0
    have k0 := X1.out.c0
    have kz := X1.out.lt
    go_wp2_with fail
    refine (awake_any _ (by exact HL.out.below B1.out)).mono ?_
    rintro e w6 ⟨rfl, hb⟩
    have BA := Lib.hid (B1.out.trans (hb.mono B1.out.size))
    clear hb B1
    go_wp2
    go_ret
    exact ⟨rfl, BA.out⟩
theorem lawBits_walk (p w c : Bool) (f g : Int) (W : World) (_hf : -9223372036854775808 ≤ f ∧ f ≤ 9223372036854775807) (_hg : -9223372036854775808 ≤ g ∧ g ≤ 9223372036854775807) (hL : LaidW W) : Calls Tryd.prog 10 #[ent p w c f, .int .i64 g] W fun e w' => e = .returned (.bool true) ∧ Below W.heap.size W w' := by
  by_cases h : okE p w c f = false ∨ p = false ∨ g < 0 ∨ 1024 ≤ g
  · exact lawBits_out p w c f g W h hL
  · have h1 : okE p w c f = true := by cases e : okE p w c f <;> first | rfl | exact absurd (Or.inl e) h
    have h2 : p = true := by cases p <;> first | rfl | exact absurd (Or.inr (Or.inl rfl)) h
    have h3 : 0 ≤ g := by omega
    have h4 : g < 1024 := by omega
    subst h2
    exact lawBits_main w c f g W h1 h3 h4 hL
end Go.Proofs.YtfehchbllfjngaaDoor
