/- The walk of the law RegionOrder. Condition: the slice lies in memory. Written by gen/gen_d25.py. -/
import Derived.Test.YtmfpoagimedhnaaD22
namespace Go.Proofs.Ytmfpoagimedhnaa
open Go.RowKit Go.Maps
set_option maxRecDepth 100000

theorem order_two {L X Y U V : List Ar} {a b : Ar} {er : Int} (h1 : AddD L a 0 X) (h2 : AddD X b 0 Y) (h3 : AddD L b 0 U) (h4 : AddD U a er V) : er = 0 ∧ V = Y := by
  obtain ⟨-, p2, p3, -, p5⟩ := h1.okay
  obtain ⟨-, -, q3, q4, q5⟩ := h2.okay
  obtain ⟨-, -, -, r4, r5⟩ := h3.okay
  have apart : ∀ p, HasD a p → ¬ HasD b p := fun p ha hb => by
    have := q3 p hb
    rw [p5] at this
    unfold withD at this
    rw [if_pos ha] at this
    cases this
  refine h4.uniq (Or.inr ⟨⟨r4, p2⟩, Or.inr ⟨fun p hp => ?_, AnsD.few q4.up (fun p => ?_) q4.few⟩⟩)
  · rw [r5]
    unfold withD
    rw [if_neg (apart p hp)]
    exact p3 p hp
  · rw [q5]
    unfold withD
    rw [p5, r5]
    unfold withD
    by_cases ha : HasD a p
    · rw [if_pos ha, if_neg (apart p ha), if_pos ha]
    · rw [if_neg ha, if_neg ha]
/-- Areas to which the first pages of an area were added, one by one. -/
structure StepO (L : List Ar) (a : Ar) (j : Nat) (M : List Ar) : Prop where
  ok : OkD M
  at_ : ∀ p, atD M p = if a.1 ≤ p ∧ p < a.1 + j then some a.2.2 else atD L p
theorem StepO.zero {L : List Ar} {a : Ar} (h : OkD L) : StepO L a 0 L := ⟨h, fun p => by rw [if_neg (by omega)]⟩
theorem StepO.next {L : List Ar} {a : Ar} {j : Nat} {M : List Ar} (h : StepO L a j M) (ha : FitD a.1 a.2.1) (hn : ∀ p, HasD a p → atD L p = none) (hj : (j : Int) < a.2.1) {er : Int} {K : List Ar} (k : AddD M (a.1 + j, 1, a.2.2) er K) : er = 3 ∨ er = 0 ∧ StepO L a (j + 1) K := by
  unfold FitD at ha
  rcases k with ⟨h1, _⟩ | ⟨h1, ⟨h2, _⟩ | ⟨h2, h3⟩⟩
  · exact absurd ⟨h.ok, by unfold FitD; simp only; omega⟩ h1
  · refine absurd (fun p hp => ?_) h2
    unfold HasD at hp
    simp only at hp
    rw [h.at_, if_neg (by omega)]
    exact hn p ⟨by omega, by omega⟩
  · rcases h3.er with rfl | ⟨rfl, _⟩
    · right
      obtain ⟨k1, k2⟩ := h3.ok
      refine ⟨rfl, k1, fun p => ?_⟩
      rw [k2]
      unfold withD
      by_cases hp : HasD (a.1 + (j : Int), (1 : Int), a.2.2) p
      · rw [if_pos hp, if_pos (by unfold HasD at hp; simp only at hp; omega)]
      · rw [if_neg hp, h.at_]
        unfold HasD at hp
        simp only at hp
        by_cases h1 : a.1 ≤ p ∧ p < a.1 + (j : Int)
        · rw [if_pos h1, if_pos (by omega)]
        · rw [if_neg h1, if_neg (by omega)]
    · left; rfl
theorem StepO.ends {L : List Ar} {a : Ar} {j : Nat} {M X : List Ar} (h : StepO L a j M) (hj : (j : Int) = a.2.1) (k : AddD L a 0 X) : M = X := by
  obtain ⟨-, -, -, k4, k5⟩ := k.okay
  refine upD_uniq h.ok.up k4.up fun p => ?_
  rw [h.at_, k5, hj]
  rfl
theorem regionOrder_far (n c : Nat) (a : Option Addr) (x y : Int) (d : Bool) (x' y' : Int) (d' : Bool) (W : World) (hn : 100 < n) : Calls Try.prog 8 #[.slice a n c, .agg #[.int .i64 x, .int .i64 y, .bool d], .agg #[.int .i64 x', .int .i64 y', .bool d']] W fun e w' => e = .returned (.bool true) ∧ Below W.heap.size W w' := by
  have B0 : Hid (Below W.heap.size W ((W.alloc (.cells #[.int .i64 x, .int .i64 y, .bool d] 32)).alloc (.cells #[.int .i64 x', .int .i64 y', .bool d'] 32))) := Lib.hid (((Below.refl _ _).alloc (Nat.le_refl _) _).alloc (by simp) _)
  go_enter Try.func8, Try.ntmps8
  go_wp2_with (go_at_call 10; refine (awake14 _).mono ?_; rintro e w2 ⟨rfl, hb⟩; have B := Lib.hid (B0.out.trans (hb.mono B0.out.size)); clear hb)
  go_ret
  exact ⟨rfl, B.out⟩
set_option maxHeartbeats 16000000 in
theorem regionOrder_near (L : List Ar) (v : Value) (x y : Int) (d : Bool) (x' y' : Int) (d' : Bool) (hx : WideD (x, y, d)) (hx' : WideD (x', y', d')) (W : World) (hl : L.length ≤ 100) (h : ArgAr W v L) : Calls Try.prog 8 #[v, .agg #[.int .i64 x, .int .i64 y, .bool d], .agg #[.int .i64 x', .int .i64 y', .bool d']] W fun e w' => e = .returned (.bool true) ∧ Below W.heap.size W w' := by
  obtain ⟨ii, hi, hi0, hi1, hi2⟩ := info_parts areaInfo
  obtain ⟨w0, hw0⟩ : ∃ w0, w0 = (W.alloc (.cells #[.int .i64 x, .int .i64 y, .bool d] 32)).alloc (.cells #[.int .i64 x', .int .i64 y', .bool d'] 32) := ⟨_, rfl⟩
  have B0 : Hid (Below W.heap.size W w0) := Lib.hid (by rw [hw0]; exact ((Below.refl _ _).alloc (Nat.le_refl _) _).alloc (by simp) _)
  have RA : Hid (w0.heap[W.heap.size]? = some (.cells #[.int .i64 x, .int .i64 y, .bool d] 32 (0, 0))) := Lib.hid (by rw [hw0]; exact below_block ((Below.refl (W.alloc (.cells #[.int .i64 x, .int .i64 y, .bool d] 32)).heap.size (W.alloc (.cells #[.int .i64 x, .int .i64 y, .bool d] 32))).alloc (Nat.le_refl _) _) (heap_alloc_new W _))
  have RB : Hid (w0.heap[W.heap.size + 1]? = some (.cells #[.int .i64 x', .int .i64 y', .bool d'] 32 (0, 0))) := Lib.hid (by rw [hw0]; simpa using heap_alloc_new (W.alloc (.cells #[.int .i64 x, .int .i64 y, .bool d] 32)) (.cells #[.int .i64 x', .int .i64 y', .bool d'] 32))
  have BXA : Hid (∀ V, Below w0.heap.size w0 V → V.cell? ⟨W.heap.size, 0, none⟩ = some (.int .i64 x) ∧ V.cell? ⟨W.heap.size, 1, none⟩ = some (.int .i64 y) ∧ V.cell? ⟨W.heap.size, 2, none⟩ = some (.bool d)) := Lib.hid fun V hV => cells3 (below_block hV RA.out)
  have BXB : Hid (∀ V, Below w0.heap.size w0 V → V.cell? ⟨W.heap.size + 1, 0, none⟩ = some (.int .i64 x') ∧ V.cell? ⟨W.heap.size + 1, 1, none⟩ = some (.int .i64 y') ∧ V.cell? ⟨W.heap.size + 1, 2, none⟩ = some (.bool d')) := Lib.hid fun V hV => cells3 (below_block hV RB.out)
  have HW := Lib.hid hw0
  have A0 := Lib.hid ((h.near hl).below B0.out)
  have WD := Lib.hid (show ∀ x ∈ L, WideD x from by obtain ⟨_, _, _, _, hw, _⟩ := h; exact hw)
  have SR := Lib.hid h.src
  have A1 := Lib.hid (fun M u V (hV : ArAt V u M) => Add_okD M u x y d hx.1 hx.2 V hV)
  have A2 := Lib.hid (fun M u V (hV : ArAt V u M) => Add_okD M u x' y' d' hx'.1 hx'.2 V hV)
  have HX := Lib.hid hx
  obtain ⟨a, c, rfl⟩ := h.form
  obtain ⟨n, hn⟩ : ∃ n, n = L.length := ⟨_, rfl⟩
  rw [← hn] at A0 SR hl ⊢
  have HN := Lib.hid hn
  have DN : Hid (∀ base u V, V.ownsRow base 32 3 u (0 + n) ([] ++ arsV L) → ArAt V u L) := Lib.hid fun base u V ho => by
    rw [Nat.zero_add, List.nil_append, HN.out] at ho
    exact ArAt.of_row ho (by rw [← HN.out]; omega) WD.out
  have AF := A1.out L _ _ A0.out
  obtain ⟨b0, b1, b2⟩ := BXA.out w0 (Below.refl _ _)
  rw [HW.out] at b0 b1 b2
  clear h hn hx hx' hw0
  go_enter Try.func8, Try.ntmps8
  go_wp2_with fail
  rw [← HW.out]
  refine AF.mono ?_
  rintro e w1 ⟨v1, e1, X, rfl, ha, hat, hb⟩
  have H1 := Lib.hid ha
  have B1 := Lib.hid hb
  have X1 := Lib.hid hat
  obtain ⟨a1, c1, rfl⟩ := hat.form
  obtain ⟨m1, hm1⟩ : ∃ m1, m1 = X.length := ⟨_, rfl⟩
  rw [← hm1] at X1 ⊢
  clear b0 b1 b2 AF ha hat hb hm1
  obtain ⟨b0, b1, b2⟩ := BXB.out _ B1.out
  go_wp2_with fail
  refine (A2.out X _ _ X1.out).mono ?_
  rintro e w2 ⟨v2, e2, Y, rfl, ha, hat, hb⟩
  have H2 := Lib.hid ha
  have B2 := Lib.hid (B1.out.trans (hb.mono B1.out.size))
  have X2 := Lib.hid (X1.out.below hb)
  have Y2 := Lib.hid hat
  obtain ⟨a2, c2, rfl⟩ := hat.form
  obtain ⟨m2, hm2⟩ : ∃ m2, m2 = Y.length := ⟨_, rfl⟩
  rw [← hm2] at Y2 ⊢
  clear b0 b1 b2 ha hat hb hm2
  obtain ⟨b0, b1, b2⟩ := BXB.out _ B2.out
  go_wp2_with fail
  refine (A2.out L _ _ (A0.out.below B2.out)).mono ?_
  rintro e w3 ⟨v3, e3, U, rfl, ha, hat, hb⟩
  have H3 := Lib.hid ha
  have B3 := Lib.hid (B2.out.trans (hb.mono B2.out.size))
  have X3 := Lib.hid (X2.out.below hb)
  have Y3 := Lib.hid (Y2.out.below hb)
  have U3 := Lib.hid hat
  obtain ⟨a3, c3, rfl⟩ := hat.form
  obtain ⟨m3, hm3⟩ : ∃ m3, m3 = U.length := ⟨_, rfl⟩
  rw [← hm3] at U3 ⊢
  clear b0 b1 b2 ha hat hb hm3
  obtain ⟨b0, b1, b2⟩ := BXA.out _ B3.out
  go_wp2_with fail
  refine (A1.out U _ _ U3.out).mono ?_
  rintro e w4 ⟨v4, e4, Q, rfl, ha, hat, hb⟩
  have H4 := Lib.hid ha
  have B4 := Lib.hid (B3.out.trans (hb.mono B3.out.size))
  have X4 := Lib.hid (X3.out.below hb)
  have Y4 := Lib.hid (Y3.out.below hb)
  have Q4 := Lib.hid hat
  obtain ⟨a4, c4, rfl⟩ := hat.form
  obtain ⟨m4, hm4⟩ : ∃ m4, m4 = Q.length := ⟨_, rfl⟩
  rw [← hm4] at Q4 ⊢
  have M4 := Lib.hid hm4
  clear b0 b1 b2 ha hat hb hm4
  obtain ⟨b0, b1, b2⟩ := BXA.out _ B4.out
  by_cases z1 : e1 = 0
  · subst z1
    by_cases z2 : e2 = 0
    · subst z2
      by_cases z3 : e3 = 0
      · subst z3
        obtain ⟨rfl, rfl⟩ := order_two H1.out H2.out H3.out H4.out
        go_wp2_with fail
        refine (sameD _ _ _ _ Y4.out Q4.out).mono ?_
        rintro e w5 ⟨rfl, hb⟩
        have B5 := Lib.hid (B4.out.trans (hb.mono B4.out.size))
        have X5 := Lib.hid (X4.out.below hb)
        clear b0 b1 b2 hb
        obtain ⟨b0, b1, b2⟩ := BXA.out _ B5.out
        by_cases h20 : 20 < y
        · go_wp2_with fail
          refine (awake14 _).mono ?_
          rintro e w6 ⟨rfl, hb⟩
          have B6 := Lib.hid (B5.out.trans (hb.mono B5.out.size))
          clear hb
          go_wp2
          go_ret
          exact ⟨rfl, B0.out.trans (B6.out.mono B0.out.size)⟩
        · obtain ⟨o1, o2, o3, o4, o5⟩ := H1.out.okay
          have OM := Lib.hid (World.ownsRow_lit (base := w5.heap.size) (e := 32) (size := 3) w5 #[] 0 (Nat.le_refl _) (by decide) rfl)
          have AM : Hid (Below w5.heap.size w5 (w5.alloc (.cells #[] 32))) := Lib.hid ((Below.refl _ _).alloc (Nat.le_refl _) _)
          have SRC := Lib.hid (SR.out _ (B0.out.trans ((B5.out.trans (AM.out.mono B5.out.size)).mono B0.out.size)))
          have ST0 := Lib.hid (StepO.zero (a := (x, y, d)) o1)
          have O2 := Lib.hid o2
          have O3 := Lib.hid o3
          obtain ⟨z1, z2, z3⟩ := o2
          simp only at z1 z2 z3
          clear o1 o3 o4 o5
          go_wp2_with (first
            | (at_builtin; refine wpList_append_src rfl (.tmp 75) (.tmp 76) 22 rfl w5.heap.size 32 ii (.agg #[.int .i64 0, .int .i64 0, .bool false]) 3 24 Try.underlying22 hi hi0 hi1 hi2 rfl (by decide) _ 0 [] rfl OM.out _ n (arsV L) rfl SRC.out (by rw [arsV_len, HN.out]) (arsV_one L) (by unfold maxLen; omega) (by omega) (by simp) ?_; intro v6 w6 ho hg; have A6 := Lib.hid (DN.out _ _ _ ho); have T6 : Hid (Below w5.heap.size w5 w6) := Lib.hid (below_grown AM.out hg (Nat.le_refl _) (fun g h => (World.ownsRow.lt OM.out g h).1)); have B6 := Lib.hid (B5.out.trans (T6.out.mono B5.out.size)); have X6 := Lib.hid (X5.out.below T6.out); obtain ⟨b0, b1, b2⟩ := BXA.out _ B6.out; obtain ⟨a6, c6, rfl⟩ := A6.out.form; clear ho hg))
          clear b0 b1 b2
          go_loopw [15, 16] (fun s i wr => ∃ (j : Nat) (M : List Ar), i = .int .i64 (x + (j : Int)) ∧ (j : Int) ≤ y ∧ Below w6.heap.size w6 wr ∧ ArAt wr s M ∧ StepO L (x, y, d) j M) (fun _ i _ => ((x + y) - intOf i).toNat)
          case atStart => exact ⟨0, L, by simp, by omega, Below.refl _ _, A6.out, ST0.out⟩
          case round =>
            obtain ⟨j, M, rfl, hj, hB, hA, hS⟩ := hrel
            have BB := Lib.hid hB
            have AA := Lib.hid hA
            have SS := Lib.hid hS
            obtain ⟨a7, c7, rfl⟩ := hA.form
            clear hB hA hS
            have G7 := Lib.hid (B6.out.trans (BB.out.mono B6.out.size))
            obtain ⟨b0, b1, b2⟩ := BXA.out _ G7.out
            by_cases hlt : (j : Int) < y
            · have hlt2 : x + (j : Int) < x + y := by omega
              have AJ := Lib.hid (Add_okD M _ (x + (j : Int)) 1 d ⟨by omega, by omega⟩ (by decide) _ AA.out)
              go_wp2_with fail
              refine AJ.out.mono ?_
              rintro e w8 ⟨v8, e8, K, rfl, hk, hat, hb⟩
              have B8 := Lib.hid (BB.out.trans (hb.mono BB.out.size))
              have K8 := Lib.hid hat
              have NX := SS.out.next O2.out O3.out hlt hk
              obtain ⟨a8, c8, rfl⟩ := hat.form
              clear hk hat hb b0 b1 b2 AJ
              rcases NX with rfl | ⟨rfl, hs⟩
              · have G8 := Lib.hid (B6.out.trans (B8.out.mono B6.out.size))
                go_wp2_with fail
                refine (awake14 _).mono ?_
                rintro e w9 ⟨rfl, hb⟩
                have B9 := Lib.hid (G8.out.trans (hb.mono G8.out.size))
                clear hb
                go_wp2
                go_ret
                exact ⟨rfl, B0.out.trans (B9.out.mono B0.out.size)⟩
              · have S8 := Lib.hid hs
                clear hs
                go_wp2
                go_roundw
                case rel => exact ⟨j + 1, K, by rw [show (((j + 1 : Nat) : Int)) = (j : Int) + 1 by omega, Int.add_assoc], by omega, B8.out, K8.out, S8.out⟩
                case measure => simp [intOf]; omega
            · have hjy : (j : Int) = y := by omega
              obtain rfl : M = X := SS.out.ends hjy H1.out
              have hge : ¬ x + (j : Int) < x + y := by omega
              clear hlt hjy
              go_wp2_with fail
              refine (sameD _ _ _ _ AA.out (X6.out.below BB.out)).mono ?_
              rintro e w8 ⟨rfl, hb⟩
              have B8 := Lib.hid (G7.out.trans (hb.mono G7.out.size))
              clear hb
              go_wp2_with fail
              refine (awake14 _).mono ?_
              rintro e w9 ⟨rfl, hb⟩
              have B9 := Lib.hid (B8.out.trans (hb.mono B8.out.size))
              clear hb
              go_wp2
              go_ret
              exact ⟨rfl, B0.out.trans (B9.out.mono B0.out.size)⟩
      · have n3 : (e3 == 0) = false := by simpa using z3
        clear z3
        by_cases h20 : 20 < y
        · go_wp2_with fail
          refine (awake14 _).mono ?_
          rintro e w6 ⟨rfl, hb⟩
          have B6 := Lib.hid (B4.out.trans (hb.mono B4.out.size))
          clear hb
          go_wp2
          go_ret
          exact ⟨rfl, B0.out.trans (B6.out.mono B0.out.size)⟩
        · obtain ⟨o1, o2, o3, o4, o5⟩ := H1.out.okay
          have OM := Lib.hid (World.ownsRow_lit (base := w4.heap.size) (e := 32) (size := 3) w4 #[] 0 (Nat.le_refl _) (by decide) rfl)
          have AM : Hid (Below w4.heap.size w4 (w4.alloc (.cells #[] 32))) := Lib.hid ((Below.refl _ _).alloc (Nat.le_refl _) _)
          have SRC := Lib.hid (SR.out _ (B0.out.trans ((B4.out.trans (AM.out.mono B4.out.size)).mono B0.out.size)))
          have ST0 := Lib.hid (StepO.zero (a := (x, y, d)) o1)
          have O2 := Lib.hid o2
          have O3 := Lib.hid o3
          obtain ⟨z1, z2, z3⟩ := o2
          simp only at z1 z2 z3
          clear o1 o3 o4 o5
          go_wp2_with (first
            | (at_builtin; refine wpList_append_src rfl (.tmp 75) (.tmp 76) 22 rfl w4.heap.size 32 ii (.agg #[.int .i64 0, .int .i64 0, .bool false]) 3 24 Try.underlying22 hi hi0 hi1 hi2 rfl (by decide) _ 0 [] rfl OM.out _ n (arsV L) rfl SRC.out (by rw [arsV_len, HN.out]) (arsV_one L) (by unfold maxLen; omega) (by omega) (by simp) ?_; intro v6 w6 ho hg; have A6 := Lib.hid (DN.out _ _ _ ho); have T6 : Hid (Below w4.heap.size w4 w6) := Lib.hid (below_grown AM.out hg (Nat.le_refl _) (fun g h => (World.ownsRow.lt OM.out g h).1)); have B6 := Lib.hid (B4.out.trans (T6.out.mono B4.out.size)); have X6 := Lib.hid (X4.out.below T6.out); obtain ⟨b0, b1, b2⟩ := BXA.out _ B6.out; obtain ⟨a6, c6, rfl⟩ := A6.out.form; clear ho hg))
          clear b0 b1 b2
          go_loopw [15, 16] (fun s i wr => ∃ (j : Nat) (M : List Ar), i = .int .i64 (x + (j : Int)) ∧ (j : Int) ≤ y ∧ Below w6.heap.size w6 wr ∧ ArAt wr s M ∧ StepO L (x, y, d) j M) (fun _ i _ => ((x + y) - intOf i).toNat)
          case atStart => exact ⟨0, L, by simp, by omega, Below.refl _ _, A6.out, ST0.out⟩
          case round =>
            obtain ⟨j, M, rfl, hj, hB, hA, hS⟩ := hrel
            have BB := Lib.hid hB
            have AA := Lib.hid hA
            have SS := Lib.hid hS
            obtain ⟨a7, c7, rfl⟩ := hA.form
            clear hB hA hS
            have G7 := Lib.hid (B6.out.trans (BB.out.mono B6.out.size))
            obtain ⟨b0, b1, b2⟩ := BXA.out _ G7.out
            by_cases hlt : (j : Int) < y
            · have hlt2 : x + (j : Int) < x + y := by omega
              have AJ := Lib.hid (Add_okD M _ (x + (j : Int)) 1 d ⟨by omega, by omega⟩ (by decide) _ AA.out)
              go_wp2_with fail
              refine AJ.out.mono ?_
              rintro e w8 ⟨v8, e8, K, rfl, hk, hat, hb⟩
              have B8 := Lib.hid (BB.out.trans (hb.mono BB.out.size))
              have K8 := Lib.hid hat
              have NX := SS.out.next O2.out O3.out hlt hk
              obtain ⟨a8, c8, rfl⟩ := hat.form
              clear hk hat hb b0 b1 b2 AJ
              rcases NX with rfl | ⟨rfl, hs⟩
              · have G8 := Lib.hid (B6.out.trans (B8.out.mono B6.out.size))
                go_wp2_with fail
                refine (awake14 _).mono ?_
                rintro e w9 ⟨rfl, hb⟩
                have B9 := Lib.hid (G8.out.trans (hb.mono G8.out.size))
                clear hb
                go_wp2
                go_ret
                exact ⟨rfl, B0.out.trans (B9.out.mono B0.out.size)⟩
              · have S8 := Lib.hid hs
                clear hs
                go_wp2
                go_roundw
                case rel => exact ⟨j + 1, K, by rw [show (((j + 1 : Nat) : Int)) = (j : Int) + 1 by omega, Int.add_assoc], by omega, B8.out, K8.out, S8.out⟩
                case measure => simp [intOf]; omega
            · have hjy : (j : Int) = y := by omega
              obtain rfl : M = X := SS.out.ends hjy H1.out
              have hge : ¬ x + (j : Int) < x + y := by omega
              clear hlt hjy
              go_wp2_with fail
              refine (sameD _ _ _ _ AA.out (X6.out.below BB.out)).mono ?_
              rintro e w8 ⟨rfl, hb⟩
              have B8 := Lib.hid (G7.out.trans (hb.mono G7.out.size))
              clear hb
              go_wp2_with fail
              refine (awake14 _).mono ?_
              rintro e w9 ⟨rfl, hb⟩
              have B9 := Lib.hid (B8.out.trans (hb.mono B8.out.size))
              clear hb
              go_wp2
              go_ret
              exact ⟨rfl, B0.out.trans (B9.out.mono B0.out.size)⟩
    · have n2 : (e2 == 0) = false := by simpa using z2
      clear z2
      by_cases h20 : 20 < y
      · go_wp2_with fail
        refine (awake14 _).mono ?_
        rintro e w6 ⟨rfl, hb⟩
        have B6 := Lib.hid (B4.out.trans (hb.mono B4.out.size))
        clear hb
        go_wp2
        go_ret
        exact ⟨rfl, B0.out.trans (B6.out.mono B0.out.size)⟩
      · obtain ⟨o1, o2, o3, o4, o5⟩ := H1.out.okay
        have OM := Lib.hid (World.ownsRow_lit (base := w4.heap.size) (e := 32) (size := 3) w4 #[] 0 (Nat.le_refl _) (by decide) rfl)
        have AM : Hid (Below w4.heap.size w4 (w4.alloc (.cells #[] 32))) := Lib.hid ((Below.refl _ _).alloc (Nat.le_refl _) _)
        have SRC := Lib.hid (SR.out _ (B0.out.trans ((B4.out.trans (AM.out.mono B4.out.size)).mono B0.out.size)))
        have ST0 := Lib.hid (StepO.zero (a := (x, y, d)) o1)
        have O2 := Lib.hid o2
        have O3 := Lib.hid o3
        obtain ⟨z1, z2, z3⟩ := o2
        simp only at z1 z2 z3
        clear o1 o3 o4 o5
        go_wp2_with (first
          | (at_builtin; refine wpList_append_src rfl (.tmp 75) (.tmp 76) 22 rfl w4.heap.size 32 ii (.agg #[.int .i64 0, .int .i64 0, .bool false]) 3 24 Try.underlying22 hi hi0 hi1 hi2 rfl (by decide) _ 0 [] rfl OM.out _ n (arsV L) rfl SRC.out (by rw [arsV_len, HN.out]) (arsV_one L) (by unfold maxLen; omega) (by omega) (by simp) ?_; intro v6 w6 ho hg; have A6 := Lib.hid (DN.out _ _ _ ho); have T6 : Hid (Below w4.heap.size w4 w6) := Lib.hid (below_grown AM.out hg (Nat.le_refl _) (fun g h => (World.ownsRow.lt OM.out g h).1)); have B6 := Lib.hid (B4.out.trans (T6.out.mono B4.out.size)); have X6 := Lib.hid (X4.out.below T6.out); obtain ⟨b0, b1, b2⟩ := BXA.out _ B6.out; obtain ⟨a6, c6, rfl⟩ := A6.out.form; clear ho hg))
        clear b0 b1 b2
        go_loopw [15, 16] (fun s i wr => ∃ (j : Nat) (M : List Ar), i = .int .i64 (x + (j : Int)) ∧ (j : Int) ≤ y ∧ Below w6.heap.size w6 wr ∧ ArAt wr s M ∧ StepO L (x, y, d) j M) (fun _ i _ => ((x + y) - intOf i).toNat)
        case atStart => exact ⟨0, L, by simp, by omega, Below.refl _ _, A6.out, ST0.out⟩
        case round =>
          obtain ⟨j, M, rfl, hj, hB, hA, hS⟩ := hrel
          have BB := Lib.hid hB
          have AA := Lib.hid hA
          have SS := Lib.hid hS
          obtain ⟨a7, c7, rfl⟩ := hA.form
          clear hB hA hS
          have G7 := Lib.hid (B6.out.trans (BB.out.mono B6.out.size))
          obtain ⟨b0, b1, b2⟩ := BXA.out _ G7.out
          by_cases hlt : (j : Int) < y
          · have hlt2 : x + (j : Int) < x + y := by omega
            have AJ := Lib.hid (Add_okD M _ (x + (j : Int)) 1 d ⟨by omega, by omega⟩ (by decide) _ AA.out)
            go_wp2_with fail
            refine AJ.out.mono ?_
            rintro e w8 ⟨v8, e8, K, rfl, hk, hat, hb⟩
            have B8 := Lib.hid (BB.out.trans (hb.mono BB.out.size))
            have K8 := Lib.hid hat
            have NX := SS.out.next O2.out O3.out hlt hk
            obtain ⟨a8, c8, rfl⟩ := hat.form
            clear hk hat hb b0 b1 b2 AJ
            rcases NX with rfl | ⟨rfl, hs⟩
            · have G8 := Lib.hid (B6.out.trans (B8.out.mono B6.out.size))
              go_wp2_with fail
              refine (awake14 _).mono ?_
              rintro e w9 ⟨rfl, hb⟩
              have B9 := Lib.hid (G8.out.trans (hb.mono G8.out.size))
              clear hb
              go_wp2
              go_ret
              exact ⟨rfl, B0.out.trans (B9.out.mono B0.out.size)⟩
            · have S8 := Lib.hid hs
              clear hs
              go_wp2
              go_roundw
              case rel => exact ⟨j + 1, K, by rw [show (((j + 1 : Nat) : Int)) = (j : Int) + 1 by omega, Int.add_assoc], by omega, B8.out, K8.out, S8.out⟩
              case measure => simp [intOf]; omega
          · have hjy : (j : Int) = y := by omega
            obtain rfl : M = X := SS.out.ends hjy H1.out
            have hge : ¬ x + (j : Int) < x + y := by omega
            clear hlt hjy
            go_wp2_with fail
            refine (sameD _ _ _ _ AA.out (X6.out.below BB.out)).mono ?_
            rintro e w8 ⟨rfl, hb⟩
            have B8 := Lib.hid (G7.out.trans (hb.mono G7.out.size))
            clear hb
            go_wp2_with fail
            refine (awake14 _).mono ?_
            rintro e w9 ⟨rfl, hb⟩
            have B9 := Lib.hid (B8.out.trans (hb.mono B8.out.size))
            clear hb
            go_wp2
            go_ret
            exact ⟨rfl, B0.out.trans (B9.out.mono B0.out.size)⟩
  · have n1 : (e1 == 0) = false := by simpa using z1
    have n1' : (e1 != 0) = true := by simpa using z1
    clear z1
    go_wp2_with fail
    refine (awake14 _).mono ?_
    rintro e w6 ⟨rfl, hb⟩
    have B6 := Lib.hid (B4.out.trans (hb.mono B4.out.size))
    clear hb
    go_wp2
    go_ret
    exact ⟨rfl, B0.out.trans (B6.out.mono B0.out.size)⟩
theorem regionOrder_walk (v : Value) (L : List Ar) (x y : Int) (d : Bool) (x' y' : Int) (d' : Bool) (W : World) (h : ArgAr W v L) (hw : WideD (x, y, d)) (hw' : WideD (x', y', d')) : Calls Try.prog 8 #[v, .agg #[.int .i64 x, .int .i64 y, .bool d], .agg #[.int .i64 x', .int .i64 y', .bool d']] W fun e w' => e = .returned (.bool true) ∧ Below W.heap.size W w' := by
  by_cases hl : L.length ≤ 100
  · exact regionOrder_near L v x y d x' y' d' hw hw' W hl h
  · obtain ⟨a, c, rfl⟩ := h.form
    exact regionOrder_far _ c a x y d x' y' d' W (by omega)
end Go.Proofs.Ytmfpoagimedhnaa
