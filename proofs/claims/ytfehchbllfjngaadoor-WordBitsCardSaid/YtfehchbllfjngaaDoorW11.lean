/- The walk of the law WordBack. Conditions: the two tables read as laid. -/
import Derived.Test.YtfehchbllfjngaaDoorW10
namespace Go.Proofs.YtfehchbllfjngaaDoor
open Go.RowKit

/-- What holds while a law with two entries goes on: the entries' boxes. -/
structure TwoSt (W : World) (p w c : Bool) (f : Int) (P V C : Bool) (G : Int) (w1 : World) : Prop where
  below : Below W.heap.size W w1
  lt : W.heap.size + 1 < w1.heap.size
  x0 : w1.cell? ⟨W.heap.size, 0, none⟩ = some (.bool p)
  x1 : w1.cell? ⟨W.heap.size, 1, none⟩ = some (.bool w)
  x2 : w1.cell? ⟨W.heap.size, 2, none⟩ = some (.bool c)
  x3 : w1.cell? ⟨W.heap.size, 3, none⟩ = some (.int .i64 f)
  y0 : w1.cell? ⟨W.heap.size + 1, 0, none⟩ = some (.bool P)
  y1 : w1.cell? ⟨W.heap.size + 1, 1, none⟩ = some (.bool V)
  y2 : w1.cell? ⟨W.heap.size + 1, 2, none⟩ = some (.bool C)
  y3 : w1.cell? ⟨W.heap.size + 1, 3, none⟩ = some (.int .i64 G)
theorem TwoSt.step {W w1 w2 : World} {p w c P V C : Bool} {f G : Int} (h : TwoSt W p w c f P V C G w1) (hb : Below w1.heap.size w1 w2) : TwoSt W p w c f P V C G w2 :=
  have k0 : W.heap.size < w1.heap.size := Nat.lt_of_succ_lt h.lt
  have k1 : W.heap.size + 1 < w1.heap.size := h.lt
  ⟨h.below.trans (hb.mono (Nat.le_of_lt k0)), Nat.lt_of_lt_of_le h.lt hb.size,
   (hb.cell (p := ⟨W.heap.size, 0, none⟩) k0).trans h.x0, (hb.cell (p := ⟨W.heap.size, 1, none⟩) k0).trans h.x1, (hb.cell (p := ⟨W.heap.size, 2, none⟩) k0).trans h.x2, (hb.cell (p := ⟨W.heap.size, 3, none⟩) k0).trans h.x3,
   (hb.cell (p := ⟨W.heap.size + 1, 0, none⟩) k1).trans h.y0, (hb.cell (p := ⟨W.heap.size + 1, 1, none⟩) k1).trans h.y1, (hb.cell (p := ⟨W.heap.size + 1, 2, none⟩) k1).trans h.y2, (hb.cell (p := ⟨W.heap.size + 1, 3, none⟩) k1).trans h.y3⟩
theorem TwoSt.alloc {W w1 : World} {p w c P V C : Bool} {f G : Int} (h : TwoSt W p w c f P V C G w1) (o : Obj) : TwoSt W p w c f P V C G (w1.alloc o) :=
  h.step ((Below.refl _ _).alloc (Nat.le_refl _) o)
theorem TwoSt.start (W : World) (p w c P V C : Bool) (f G : Int) (t : TypeId) : TwoSt W p w c f P V C G ((W.alloc (.cells #[.bool p, .bool w, .bool c, .int .i64 f] t)).alloc (.cells #[.bool P, .bool V, .bool C, .int .i64 G] t)) := by
  have hb : Below (W.alloc (.cells #[.bool p, .bool w, .bool c, .int .i64 f] t)).heap.size (W.alloc (.cells #[.bool p, .bool w, .bool c, .int .i64 f] t)) ((W.alloc (.cells #[.bool p, .bool w, .bool c, .int .i64 f] t)).alloc (.cells #[.bool P, .bool V, .bool C, .int .i64 G] t)) := (Below.refl _ _).alloc (Nat.le_refl _) _
  have e : ∀ i, ((W.alloc (.cells #[.bool p, .bool w, .bool c, .int .i64 f] t)).alloc (.cells #[.bool P, .bool V, .bool C, .int .i64 G] t)).cell? ⟨W.heap.size + 1, i, none⟩ = #[Value.bool P, .bool V, .bool C, .int .i64 G][i]? := fun i => by
    have := World.cell?_alloc_new (W.alloc (.cells #[.bool p, .bool w, .bool c, .int .i64 f] t)) #[Value.bool P, .bool V, .bool C, .int .i64 G] t i
    rwa [World.size_alloc] at this
  exact ⟨((Below.refl _ _).alloc (Nat.le_refl _) _).trans (hb.mono (by simp)), by simp, (box_cell hb 0).trans rfl, (box_cell hb 1).trans rfl, (box_cell hb 2).trans rfl, (box_cell hb 3).trans rfl, e 0, e 1, e 2, e 3⟩

/-- The bits of an entry's word are the entry's. -/
theorem word_bits (p w c : Bool) (f : Int) (h0 : 0 ≤ f) (h1 : f < 1024) : wordOf p w c f / 1 % 2 = bit p ∧ wordOf p w c f / 2 % 2 = bit w ∧ wordOf p w c f / 4 % 2 = bit c ∧ wordOf p w c f / 256 % 1024 = f ∧ 0 ≤ wordOf p w c f ∧ wordOf p w c f < 4294967296 := by
  have a0 := bit_lo p
  have a1 := bit_hi p
  have b0 := bit_lo w
  have b1 := bit_hi w
  have c0 := bit_lo c
  have c1 := bit_hi c
  unfold wordOf
  omega
theorem ok_lo {p w c : Bool} {f : Int} (h : okE p w c f = true) : 0 ≤ f ∧ f < 1024 := by simp [okE] at h; omega
theorem bit_inj {a b : Bool} (h : bit a = bit b) : a = b := by cases a <;> cases b <;> first | rfl | exact absurd h (by decide)
/-- Unlike entries have unlike words. -/
theorem word_inj {p w c P V C : Bool} {f G : Int} (h : okE p w c f = true) (k : okE P V C G = true) (e : wordOf p w c f = wordOf P V C G) : p = P ∧ w = V ∧ c = C ∧ f = G := by
  obtain ⟨a0, a1, a2, a3, _⟩ := word_bits p w c f (ok_lo h).1 (ok_lo h).2
  obtain ⟨b0, b1, b2, b3, _⟩ := word_bits P V C G (ok_lo k).1 (ok_lo k).2
  rw [e] at a0 a1 a2 a3
  exact ⟨bit_inj (a0.symm.trans b0), bit_inj (a1.symm.trans b1), bit_inj (a2.symm.trans b2), a3.symm.trans b3⟩
/-- Get of a word that was put. -/
theorem get_put (p w c : Bool) (f : Int) (W : World) (hok : okE p w c f = true) (hL : LaidW W) : Calls Tryd.prog 16 #[.int .u32 (wordOf p w c f)] W fun e w' => e = .returned (.tuple #[ent p w c f, .int .i64 0]) ∧ Below W.heap.size W w' := by
  obtain ⟨a0, a1, a2, a3, a4, a5⟩ := word_bits p w c f (ok_lo hok).1 (ok_lo hok).2
  exact get_yes _ p w c f W a4 a5 a0 a1 a2 a3 hok rfl hL
/-- What is got is put so. -/
theorem back_second (a : Int) (h0 : 0 ≤ a) (h1 : a ≤ 4294967295) : ∃ (q x d : Bool) (g k v i : Int), (∀ W, LaidW W → Calls Tryd.prog 16 #[.int .u32 a] W fun e w' => e = .returned (.tuple #[ent q x d g, .int .i64 k]) ∧ Below W.heap.size W w') ∧
    (∀ W, LaidW W → Calls Tryd.prog 11 #[ent q x d g] W fun e w' => e = .returned (.tuple #[.int .u32 v, .int .i64 i]) ∧ Below W.heap.size W w') ∧ ((v = a ∧ k = 0 ∧ i = 0) ∨ k = 6) := by
  have h2 : a < 4294967296 := by omega
  obtain ⟨p, w, c, hp, hw, hc⟩ := bits_of a
  obtain ⟨f, hf⟩ : ∃ f, a / 256 % 1024 = f := ⟨_, rfl⟩
  by_cases hg : okE p w c f = true ∧ wordOf p w c f = a
  · exact ⟨p, w, c, f, 0, a, 0, fun W h => get_yes a p w c f W h0 h2 hp hw hc hf hg.1 hg.2 h, fun W h => hg.2 ▸ put_yes p w c f W hg.1 h, Or.inl ⟨rfl, rfl, rfl⟩⟩
  · exact ⟨false, false, false, 0, 6, _, 0, fun W h => get_bad a p w c f W h0 h2 hp hw hc hf hg h, fun W h => put_yes false false false 0 W (by decide) h, Or.inr rfl⟩
set_option maxRecDepth 100000 in
set_option maxHeartbeats 8000000 in
theorem lawBack_ne (p w c : Bool) (f : Int) (P V C : Bool) (G : Int) (a : Int) (W : World) (h0 : 0 ≤ a) (h1 : a ≤ 4294967295) (hok : okE p w c f = true) (hoy : okE P V C G = true) (hne : ¬ (p = P ∧ w = V ∧ c = C ∧ f = G)) (hL : LaidW W) : Calls Tryd.prog 7 #[ent p w c f, ent P V C G, .int .u32 a] W fun e w' => e = .returned (.bool true) ∧ Below W.heap.size W w' := by
  have HL := Lib.hid hL
  have C1 := Lib.hid (fun W h => put_yes p w c f W hok h)
  have C2 := Lib.hid (fun W h => put_yes P V C G W hoy h)
  have C3 := Lib.hid (fun W h => get_put p w c f W hok h)
  have hn : (wordOf p w c f == wordOf P V C G) = false := beq_eq_false_iff_ne.2 (fun e => hne (word_inj hok hoy e))
  have S0 := Lib.hid (TwoSt.start W p w c P V C f G 23)
  obtain ⟨q, x, d, g, k, v, i, d1, d2, hk⟩ := back_second a h0 h1
  have D1 := Lib.hid d1
  have D2 := Lib.hid d2
  clear hL d1 d2 h0 h1
  clear hok hoy
  have t : ¬ p = P ∨ (p = P ∧ ¬ w = V) ∨ (p = P ∧ w = V ∧ ¬ c = C) ∨ (p = P ∧ w = V ∧ c = C ∧ ¬ f = G) := by
    by_cases a1 : p = P
    · by_cases a2 : w = V
      · by_cases a3 : c = C
        · exact Or.inr (Or.inr (Or.inr ⟨a1, a2, a3, fun a4 => hne ⟨a1, a2, a3, a4⟩⟩))
        · exact Or.inr (Or.inr (Or.inl ⟨a1, a2, a3⟩))
      · exact Or.inr (Or.inl ⟨a1, a2⟩)
    · exact Or.inl a1
  clear hne
  rcases t with t | ⟨rfl, t⟩ | ⟨rfl, rfl, t⟩ | ⟨rfl, rfl, rfl, t⟩ <;> rcases hk with ⟨rfl, rfl, rfl⟩ | rfl
  all_goals
    go_enter Tryd.func7, Tryd.ntmps7
    go_wp2_with fail
    refine (C1.out _ (by exact HL.out.below S0.out.below)).mono ?_
    rintro e w1 ⟨rfl, hb⟩
    have S1 := Lib.hid (S0.out.step hb)
    clear hb S0
    have k0 := S1.out.y0
    have k1 := S1.out.y1
    have k2 := S1.out.y2
    have k3 := S1.out.y3
    go_wp2_with fail
    clear k0 k1 k2 k3
    refine (C2.out _ (by exact HL.out.below S1.out.below)).mono ?_
    rintro e w2 ⟨rfl, hb⟩
    have S2 := Lib.hid (S1.out.step hb)
    clear hb S1
    go_wp2_with fail
    refine (C3.out _ (by exact HL.out.below S2.out.below)).mono ?_
    rintro e w3 ⟨rfl, hb⟩
    have S3 := Lib.hid (S2.out.step hb)
    clear hb S2
    have j0 := S3.out.x0
    have j1 := S3.out.x1
    have j2 := S3.out.x2
    have j3 := S3.out.x3
    have k0 := S3.out.y0
    have k1 := S3.out.y1
    have k2 := S3.out.y2
    have k3 := S3.out.y3
    have kz0 := Nat.lt_of_succ_lt S3.out.lt
    have kz1 := S3.out.lt
    go_wp2_with fail
    have S4 := Lib.hid (S3.out.alloc (.cells #[.bool p, .bool w, .bool c, .int .i64 f] 23))
    clear j0 j1 j2 j3 k0 k1 k2 k3 kz0 kz1 S3
    refine (D1.out _ (by exact HL.out.below S4.out.below)).mono ?_
    rintro e w4 ⟨rfl, hb⟩
    have S5 := Lib.hid (S4.out.step hb)
    clear hb S4
    go_wp2_with fail
    have S6 := Lib.hid (S5.out.alloc (.cells #[.bool q, .bool x, .bool d, .int .i64 g] 23))
    clear S5
    refine (D2.out _ (by exact HL.out.below S6.out.below)).mono ?_
    rintro e w5 ⟨rfl, hb⟩
    have S7 := Lib.hid (S6.out.step hb)
    clear hb S6
    go_wp2_with fail
    refine (awake_any _ (by exact HL.out.below S7.out.below)).mono ?_
    rintro e w6 ⟨rfl, hb⟩
    have S8 := Lib.hid (S7.out.step hb)
    clear hb S7
    go_wp2
    go_ret
    exact ⟨rfl, S8.out.below⟩
set_option maxRecDepth 100000 in
set_option maxHeartbeats 8000000 in
theorem lawBack_eq (p w c : Bool) (f : Int) (a : Int) (W : World) (h0 : 0 ≤ a) (h1 : a ≤ 4294967295) (hok : okE p w c f = true) (hL : LaidW W) : Calls Tryd.prog 7 #[ent p w c f, ent p w c f, .int .u32 a] W fun e w' => e = .returned (.bool true) ∧ Below W.heap.size W w' := by
  have HL := Lib.hid hL
  have C1 := Lib.hid (fun W h => put_yes p w c f W hok h)
  have C2 := Lib.hid (fun W h => put_yes p w c f W hok h)
  have C3 := Lib.hid (fun W h => get_put p w c f W hok h)
  have S0 := Lib.hid (TwoSt.start W p w c p w c f f 23)
  obtain ⟨q, x, d, g, k, v, i, d1, d2, hk⟩ := back_second a h0 h1
  have D1 := Lib.hid d1
  have D2 := Lib.hid d2
  clear hL d1 d2 h0 h1
  clear hok
  rcases hk with ⟨rfl, rfl, rfl⟩ | rfl
  all_goals
    go_enter Tryd.func7, Tryd.ntmps7
    go_wp2_with fail
    refine (C1.out _ (by exact HL.out.below S0.out.below)).mono ?_
    rintro e w1 ⟨rfl, hb⟩
    have S1 := Lib.hid (S0.out.step hb)
    clear hb S0
    have k0 := S1.out.y0
    have k1 := S1.out.y1
    have k2 := S1.out.y2
    have k3 := S1.out.y3
    go_wp2_with fail
    clear k0 k1 k2 k3
    refine (C2.out _ (by exact HL.out.below S1.out.below)).mono ?_
    rintro e w2 ⟨rfl, hb⟩
    have S2 := Lib.hid (S1.out.step hb)
    clear hb S1
    go_wp2_with fail
    refine (C3.out _ (by exact HL.out.below S2.out.below)).mono ?_
    rintro e w3 ⟨rfl, hb⟩
    have S3 := Lib.hid (S2.out.step hb)
    clear hb S2
    have j0 := S3.out.x0
    have j1 := S3.out.x1
    have j2 := S3.out.x2
    have j3 := S3.out.x3
    have k0 := S3.out.y0
    have k1 := S3.out.y1
    have k2 := S3.out.y2
    have k3 := S3.out.y3
    have kz0 := Nat.lt_of_succ_lt S3.out.lt
    have kz1 := S3.out.lt
    go_wp2_with fail
    have S4 := Lib.hid (S3.out.alloc (.cells #[.bool p, .bool w, .bool c, .int .i64 f] 23))
    clear j0 j1 j2 j3 k0 k1 k2 k3 kz0 kz1 S3
    refine (D1.out _ (by exact HL.out.below S4.out.below)).mono ?_
    rintro e w4 ⟨rfl, hb⟩
    have S5 := Lib.hid (S4.out.step hb)
    clear hb S4
    go_wp2_with fail
    have S6 := Lib.hid (S5.out.alloc (.cells #[.bool q, .bool x, .bool d, .int .i64 g] 23))
    clear S5
    refine (D2.out _ (by exact HL.out.below S6.out.below)).mono ?_
    rintro e w5 ⟨rfl, hb⟩
    have S7 := Lib.hid (S6.out.step hb)
    clear hb S6
    go_wp2_with fail
    refine (awake_any _ (by exact HL.out.below S7.out.below)).mono ?_
    rintro e w6 ⟨rfl, hb⟩
    have S8 := Lib.hid (S7.out.step hb)
    clear hb S7
    go_wp2
    go_ret
    exact ⟨rfl, S8.out.below⟩
set_option maxRecDepth 100000 in
set_option maxHeartbeats 8000000 in
theorem lawBack_yn (p w c : Bool) (f : Int) (P V C : Bool) (G : Int) (a : Int) (W : World) (h0 : 0 ≤ a) (h1 : a ≤ 4294967295) (hok : okE p w c f = true) (hoy : okE P V C G = false) (hL : LaidW W) : Calls Tryd.prog 7 #[ent p w c f, ent P V C G, .int .u32 a] W fun e w' => e = .returned (.bool true) ∧ Below W.heap.size W w' := by
  have HL := Lib.hid hL
  have C1 := Lib.hid (fun W h => put_yes p w c f W hok h)
  have C2 := Lib.hid (fun W (_ : LaidW W) => put_no P V C G W hoy)
  have C3 := Lib.hid (fun W h => get_put p w c f W hok h)
  have S0 := Lib.hid (TwoSt.start W p w c P V C f G 23)
  obtain ⟨q, x, d, g, k, v, i, d1, d2, hk⟩ := back_second a h0 h1
  have D1 := Lib.hid d1
  have D2 := Lib.hid d2
  clear hL d1 d2 h0 h1
  clear hok hoy
  rcases hk with ⟨rfl, rfl, rfl⟩ | rfl
  all_goals
    go_enter Tryd.func7, Tryd.ntmps7
    go_wp2_with fail
    refine (C1.out _ (by exact HL.out.below S0.out.below)).mono ?_
    rintro e w1 ⟨rfl, hb⟩
    have S1 := Lib.hid (S0.out.step hb)
    clear hb S0
    have k0 := S1.out.y0
    have k1 := S1.out.y1
    have k2 := S1.out.y2
    have k3 := S1.out.y3
    go_wp2_with fail
    clear k0 k1 k2 k3
    refine (C2.out _ (by exact HL.out.below S1.out.below)).mono ?_
    rintro e w2 ⟨rfl, hb⟩
    have S2 := Lib.hid (S1.out.step hb)
    clear hb S1
    go_wp2_with fail
    refine (C3.out _ (by exact HL.out.below S2.out.below)).mono ?_
    rintro e w3 ⟨rfl, hb⟩
    have S3 := Lib.hid (S2.out.step hb)
    clear hb S2
    have j0 := S3.out.x0
    have j1 := S3.out.x1
    have j2 := S3.out.x2
    have j3 := S3.out.x3
    have k0 := S3.out.y0
    have k1 := S3.out.y1
    have k2 := S3.out.y2
    have k3 := S3.out.y3
    have kz0 := Nat.lt_of_succ_lt S3.out.lt
    have kz1 := S3.out.lt
    go_wp2_with fail
    have S4 := Lib.hid (S3.out.alloc (.cells #[.bool p, .bool w, .bool c, .int .i64 f] 23))
    clear j0 j1 j2 j3 k0 k1 k2 k3 kz0 kz1 S3
    refine (D1.out _ (by exact HL.out.below S4.out.below)).mono ?_
    rintro e w4 ⟨rfl, hb⟩
    have S5 := Lib.hid (S4.out.step hb)
    clear hb S4
    go_wp2_with fail
    have S6 := Lib.hid (S5.out.alloc (.cells #[.bool q, .bool x, .bool d, .int .i64 g] 23))
    clear S5
    refine (D2.out _ (by exact HL.out.below S6.out.below)).mono ?_
    rintro e w5 ⟨rfl, hb⟩
    have S7 := Lib.hid (S6.out.step hb)
    clear hb S6
    go_wp2_with fail
    refine (awake_any _ (by exact HL.out.below S7.out.below)).mono ?_
    rintro e w6 ⟨rfl, hb⟩
    have S8 := Lib.hid (S7.out.step hb)
    clear hb S7
    go_wp2
    go_ret
    exact ⟨rfl, S8.out.below⟩
set_option maxRecDepth 100000 in
set_option maxHeartbeats 8000000 in
theorem lawBack_nx (p w c : Bool) (f : Int) (P V C : Bool) (G : Int) (a : Int) (W : World) (h0 : 0 ≤ a) (h1 : a ≤ 4294967295) (hok : okE p w c f = false) (hL : LaidW W) : Calls Tryd.prog 7 #[ent p w c f, ent P V C G, .int .u32 a] W fun e w' => e = .returned (.bool true) ∧ Below W.heap.size W w' := by
  have HL := Lib.hid hL
  have C1 := Lib.hid (fun W (_ : LaidW W) => put_no p w c f W hok)
  have cy : ∃ v2 k2 : Int, ∀ W, LaidW W → Calls Tryd.prog 11 #[ent P V C G] W fun e w' => e = .returned (.tuple #[.int .u32 v2, .int .i64 k2]) ∧ Below W.heap.size W w' := by
    cases hoy : okE P V C G
    · exact ⟨0, 2, fun W _ => put_no P V C G W hoy⟩
    · exact ⟨wordOf P V C G, 0, fun W h => put_yes P V C G W hoy h⟩
  obtain ⟨v2, kk, c2⟩ := cy
  have C2 := Lib.hid c2
  have C3 := Lib.hid (fun W h => get_put false false false 0 W (by decide) h)
  rw [show wordOf false false false 0 = 0 from by decide] at C3
  clear c2
  have S0 := Lib.hid (TwoSt.start W p w c P V C f G 23)
  obtain ⟨q, x, d, g, k, v, i, d1, d2, hk⟩ := back_second a h0 h1
  have D1 := Lib.hid d1
  have D2 := Lib.hid d2
  clear hL d1 d2 h0 h1
  clear hok
  rcases hk with ⟨rfl, rfl, rfl⟩ | rfl
  all_goals
    go_enter Tryd.func7, Tryd.ntmps7
    go_wp2_with fail
    refine (C1.out _ (by exact HL.out.below S0.out.below)).mono ?_
    rintro e w1 ⟨rfl, hb⟩
    have S1 := Lib.hid (S0.out.step hb)
    clear hb S0
    have k0 := S1.out.y0
    have k1 := S1.out.y1
    have k2 := S1.out.y2
    have k3 := S1.out.y3
    go_wp2_with fail
    clear k0 k1 k2 k3
    refine (C2.out _ (by exact HL.out.below S1.out.below)).mono ?_
    rintro e w2 ⟨rfl, hb⟩
    have S2 := Lib.hid (S1.out.step hb)
    clear hb S1
    go_wp2_with fail
    refine (C3.out _ (by exact HL.out.below S2.out.below)).mono ?_
    rintro e w3 ⟨rfl, hb⟩
    have S3 := Lib.hid (S2.out.step hb)
    clear hb S2
    have j0 := S3.out.x0
    have j1 := S3.out.x1
    have j2 := S3.out.x2
    have j3 := S3.out.x3
    have k0 := S3.out.y0
    have k1 := S3.out.y1
    have k2 := S3.out.y2
    have k3 := S3.out.y3
    have kz0 := Nat.lt_of_succ_lt S3.out.lt
    have kz1 := S3.out.lt
    go_wp2_with fail
    have S4 := Lib.hid (S3.out.alloc (.cells #[.bool false, .bool false, .bool false, .int .i64 0] 23))
    clear j0 j1 j2 j3 k0 k1 k2 k3 kz0 kz1 S3
    refine (D1.out _ (by exact HL.out.below S4.out.below)).mono ?_
    rintro e w4 ⟨rfl, hb⟩
    have S5 := Lib.hid (S4.out.step hb)
    clear hb S4
    go_wp2_with fail
    have S6 := Lib.hid (S5.out.alloc (.cells #[.bool q, .bool x, .bool d, .int .i64 g] 23))
    clear S5
    refine (D2.out _ (by exact HL.out.below S6.out.below)).mono ?_
    rintro e w5 ⟨rfl, hb⟩
    have S7 := Lib.hid (S6.out.step hb)
    clear hb S6
    go_wp2_with fail
    refine (awake_any _ (by exact HL.out.below S7.out.below)).mono ?_
    rintro e w6 ⟨rfl, hb⟩
    have S8 := Lib.hid (S7.out.step hb)
    clear hb S7
    go_wp2
    go_ret
    exact ⟨rfl, S8.out.below⟩
theorem lawBack_walk (p w c : Bool) (f : Int) (P V C : Bool) (G : Int) (a : Int) (W : World) (_hf : -9223372036854775808 ≤ f ∧ f ≤ 9223372036854775807) (_hG : -9223372036854775808 ≤ G ∧ G ≤ 9223372036854775807) (ha : 0 ≤ a ∧ a ≤ 4294967295) (hL : LaidW W) : Calls Tryd.prog 7 #[ent p w c f, ent P V C G, .int .u32 a] W fun e w' => e = .returned (.bool true) ∧ Below W.heap.size W w' := by
  cases hok : okE p w c f
  · exact lawBack_nx p w c f P V C G a W ha.1 ha.2 hok hL
  cases hoy : okE P V C G
  · exact lawBack_yn p w c f P V C G a W ha.1 ha.2 hok hoy hL
  by_cases e : p = P ∧ w = V ∧ c = C ∧ f = G
  · obtain ⟨rfl, rfl, rfl, rfl⟩ := e
    exact lawBack_eq p w c f a W ha.1 ha.2 hok hL
  · exact lawBack_ne p w c f P V C G a W ha.1 ha.2 hok hoy e hL
end Go.Proofs.YtfehchbllfjngaaDoor
