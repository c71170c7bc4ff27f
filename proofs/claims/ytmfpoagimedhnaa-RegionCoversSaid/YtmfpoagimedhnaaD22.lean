/- The walk of the law RegionBack. Condition: the slice lies in memory. -/
import Derived.Test.YtmfpoagimedhnaaD20
namespace Go.Proofs.Ytmfpoagimedhnaa
open Go.RowKit Go.Maps
set_option maxRecDepth 100000

theorem AddD.okay {L : List Ar} {a : Ar} {M : List Ar} (h : AddD L a 0 M) : OkD L ∧ FitD a.1 a.2.1 ∧ (∀ p, HasD a p → atD L p = none) ∧ OkD M ∧ ∀ p, atD M p = withD a (atD L) p := by
  obtain ⟨⟨h1, h2⟩, h3, h4⟩ := two_okD (by decide) (by decide) h
  obtain ⟨h5, h6⟩ := h4.ok
  exact ⟨h1, h2, h3, h5, h6⟩
theorem AddD.pages {L : List Ar} {a : Ar} {M : List Ar} (h : AddD L a 0 M) : pagesD M = pagesD L + a.2.1 := by
  obtain ⟨-, h2, h3, -, h5⟩ := h.okay
  rw [← cntD_has a h2]
  refine cntD_or (fun p => ?_) (fun p hp => ?_) 0 1024
  · rw [h5]
    unfold withD
    by_cases hp : HasD a p
    · rw [if_pos hp]; simp [hp]
    · rw [if_neg hp]; simp [hp]
  · by_cases hh : HasD a p
    · rw [h3 p hh] at hp; simp at hp
    · simp [hh]
theorem AddD.undo {L : List Ar} {a : Ar} {M K : List Ar} {er : Int} (h : AddD L a 0 M) (k : CutD M a.1 a.2.1 er K) : er = 0 ∧ K = L := by
  obtain ⟨h1, h2, h3, h4, h5⟩ := h.okay
  refine k.uniq (Or.inr ⟨⟨h4, h2⟩, Or.inr ⟨fun p p1 p2 => ?_, AnsD.few h1.up (fun p => ?_) h1.few⟩⟩)
  · rw [h5]
    unfold withD
    rw [if_pos ⟨p1, p2⟩]
    simp
  · unfold lessD
    by_cases hp : a.1 ≤ p ∧ p < a.1 + a.2.1
    · rw [if_pos hp]; exact h3 p hp
    · rw [if_neg hp, h5]
      exact (if_neg hp).symm
theorem AddD.wide {L : List Ar} {a : Ar} {er : Int} {M : List Ar} (h : AddD L a er M) : M.length ≤ 8 := two_len h
theorem pages_ok {L : List Ar} (h : OkD L) : PagesD L (pagesD L) := Or.inl ⟨h, rfl⟩
theorem pages_lim (L : List Ar) : 0 ≤ pagesD L ∧ pagesD L ≤ 1024 := cntD_le _ _ _
theorem says_some (d : Bool) : saysD (some d) = .returned (.tuple #[.bool d, .bool true]) := by cases d <;> rfl
theorem says_none : saysD none = .returned (.tuple #[.bool false, .bool false]) := rfl
theorem regionBack_far (n c : Nat) (a : Option Addr) (x y : Int) (b : Bool) (W : World) (hn : 100 < n) : Calls Try.prog 6 #[.slice a n c, .agg #[.int .i64 x, .int .i64 y, .bool b]] W fun e w' => e = .returned (.bool true) ∧ Below W.heap.size W w' := by
  have B0 : Hid (Below W.heap.size W (W.alloc (.cells #[.int .i64 x, .int .i64 y, .bool b] 32))) := Lib.hid ((Below.refl _ _).alloc (Nat.le_refl _) _)
  go_enter Try.func6, Try.ntmps6
  go_wp2_with (go_at_call 10; refine (awake14 _).mono ?_; rintro e w2 ⟨rfl, hb⟩; have B := Lib.hid (B0.out.trans (hb.mono B0.out.size)); clear hb)
  go_ret
  exact ⟨rfl, B.out⟩
set_option maxHeartbeats 8000000 in
theorem regionBack_near (L : List Ar) (v : Value) (x y : Int) (b : Bool) (hx : I64 x) (hy : I64 y) (W : World) (hl : L.length ≤ 100) (h : ArAt W v L) : Calls Try.prog 6 #[v, .agg #[.int .i64 x, .int .i64 y, .bool b]] W fun e w' => e = .returned (.bool true) ∧ Below W.heap.size W w' := by
  obtain ⟨w0, hw0⟩ : ∃ w0, w0 = W.alloc (.cells #[.int .i64 x, .int .i64 y, .bool b] 32) := ⟨_, rfl⟩
  have B0 : Hid (Below W.heap.size W w0) := Lib.hid (by rw [hw0]; exact (Below.refl _ _).alloc (Nat.le_refl _) _)
  have R0 : Hid (w0.heap[W.heap.size]? = some (.cells #[.int .i64 x, .int .i64 y, .bool b] 32 (0, 0))) := Lib.hid (by rw [hw0]; exact heap_alloc_new W _)
  have BX : Hid (∀ V, Below w0.heap.size w0 V → V.cell? ⟨W.heap.size, 0, none⟩ = some (.int .i64 x) ∧ V.cell? ⟨W.heap.size, 1, none⟩ = some (.int .i64 y) ∧ V.cell? ⟨W.heap.size, 2, none⟩ = some (.bool b)) := Lib.hid fun V hV => cells3 (below_block hV R0.out)
  have HW := Lib.hid hw0
  have A0 := Lib.hid (h.below B0.out)
  have AD := Lib.hid (Add_okD L v x y b hx hy w0 (h.below B0.out))
  obtain ⟨a, c, rfl⟩ := h.form
  obtain ⟨n, hn⟩ : ∃ n, n = L.length := ⟨_, rfl⟩
  rw [← hn] at A0 AD hl ⊢
  have HN := Lib.hid hn
  obtain ⟨b0, b1, b2⟩ := cells3 (heap_alloc_new W (.cells #[.int .i64 x, .int .i64 y, .bool b] 32))
  clear h hn hw0 hx hy
  go_enter Try.func6, Try.ntmps6
  go_wp2_with fail
  rw [← HW.out]
  refine AD.out.mono ?_
  rintro e w1 ⟨v1, er, M, rfl, ha, hat, hb⟩
  have HA := Lib.hid ha
  have B1 := Lib.hid hb
  have M1 := Lib.hid hat
  clear b0 b1 b2 ha hat hb
  obtain ⟨a1, c1, rfl⟩ := M1.out.form
  obtain ⟨m, hm⟩ : ∃ m, m = M.length := ⟨_, rfl⟩
  rw [← hm] at M1 ⊢
  have HM := Lib.hid hm
  clear hm
  by_cases hz : er = 0
  · subst hz
    obtain ⟨o1, o2, o3, o4, o5⟩ := HA.out.okay
    have hpg := HA.out.pages
    obtain ⟨l1, l2⟩ := pages_lim L
    have PM := Lib.hid (fun V (hV : ArAt V (.slice a1 m c1) M) => Pages_okD M _ V hV (pages_ok o4))
    have PL := Lib.hid (fun V (hV : ArAt V (.slice a n c) L) => Pages_okD L _ V hV (pages_ok o1))
    have CM := Lib.hid (fun V (hV : ArAt V (.slice a1 m c1) M) => check_okD M _ V hV (Or.inl ⟨o4, rfl⟩))
    have FM := Lib.hid (fun p V (hV : ArAt V (.slice a1 m c1) M) => Find_okD M _ p V hV (Or.inl ⟨o4, rfl⟩))
    have FL := Lib.hid (fun p V (hV : ArAt V (.slice a n c) L) => Find_okD L _ p V hV (Or.inl ⟨o1, rfl⟩))
    have CU := Lib.hid (fun V (hV : ArAt V (.slice a1 m c1) M) => Cut_okD M _ x y (FitD.wide (x := (x, y, b)) o2).1 (FitD.wide (x := (x, y, b)) o2).2 V hV)
    have O3 := Lib.hid o3
    have O5 := Lib.hid o5
    obtain ⟨z1, z2, z3⟩ := o2
    simp only at hpg z1 z2 z3
    generalize pagesD M = pm at PM hpg
    generalize pagesD L = pl at PL hpg l1 l2
    have hw : IntKind.i64.wrap (pl + y) = pm := (IntWalk.i64_in _ (by omega)).trans hpg.symm
    clear o1 o3 o4 o5 hpg
    obtain ⟨b0, b1, b2⟩ := BX.out _ B1.out
    clear b0 b2
    go_wp2_with fail
    go_region_held3 (fun V => V.cell? ⟨W.heap.size, 1, none⟩ = some (.int .i64 y)) (first | with_reducible exact (BX.out _ B1.out.drew).2.1 | with_reducible exact (BX.out _ B2.out).2.1 | with_reducible exact (BX.out _ B3.out).2.1 | with_reducible exact (BX.out _ B4.out).2.1)
      (first
        | (go_at_call 13; refine (CM.out _ (M1.out.below (Below.refl _ _).drew)).mono ?_; rintro e w2 ⟨rfl, hb⟩; have B2 := Lib.hid (B1.out.drew.trans (hb.mono (by exact B1.out.drew.size))); have M2 := Lib.hid ((M1.out.below (Below.refl _ _).drew).below hb); clear hb)
        | (go_at_call 17; with_reducible refine (PM.out _ M2.out).mono ?_; rintro e w3 ⟨rfl, hb⟩; have B3 := Lib.hid (B2.out.trans (hb.mono B2.out.size)); have M3 := Lib.hid (M2.out.below hb); clear hb)
        | (go_at_call 17; with_reducible refine (PL.out _ (A0.out.below B3.out)).mono ?_; rintro e w4 ⟨rfl, hb⟩; have B4 := Lib.hid (B3.out.trans (hb.mono B3.out.size)); have M4 := Lib.hid (M3.out.below hb); clear hb))
    clear hw b1
    go_wp2_with fail
    go_loopw [7] (fun i wr => ∃ j : Nat, i = .int .i64 (j : Int) ∧ j ≤ 1024 ∧ Below w4.heap.size w4 wr) (fun i _ => (1024 - (intOf i).toNat))
    case atStart => exact ⟨0, rfl, Nat.zero_le _, Below.refl _ _⟩
    case round =>
      obtain ⟨j, rfl, hj, hB⟩ := hrel
      have B := Lib.hid hB
      clear hB
      by_cases hlt : j < 1024
      · have F1 := Lib.hid (FM.out (j : Int) _ (M4.out.below B.out))
        have F2 := Lib.hid (fun V (hV : Below w0.heap.size w0 V) => FL.out (j : Int) V (A0.out.below hV))
        have e5 := O5.out (j : Int)
        rw [e5] at F1
        clear e5
        unfold withD at F1
        by_cases hp : HasD (x, y, b) (j : Int)
        · rw [if_pos hp, says_some] at F1
          rw [O3.out _ hp, says_none] at F2
          obtain ⟨p1, p2⟩ := hp
          simp only at p1 p2
          go_wp2_with fail
          refine F1.out.mono ?_
          rintro e w5 ⟨rfl, hb⟩
          have B5 := Lib.hid (B.out.trans (hb.mono B.out.size))
          clear hb
          go_wp2_with fail
          refine (F2.out _ (B4.out.trans (B5.out.mono B4.out.size))).mono ?_
          rintro e w6 ⟨rfl, hb⟩
          have B6 := Lib.hid (B5.out.trans (hb.mono B5.out.size))
          clear hb
          obtain ⟨b0, b1, b2⟩ := BX.out _ (B4.out.trans (B6.out.mono B4.out.size))
          go_wp2
          go_roundw
          case rel => exact ⟨j + 1, by go_num, by omega, B6.out⟩
          case measure => simp [intOf]; omega
        · rw [if_neg hp] at F1
          cases hf : atD L (j : Int) with
          | none =>
            rw [hf, says_none] at F1 F2
            clear hf
            by_cases p1 : x ≤ (j : Int)
            · have p2 : ¬ (j : Int) < x + y := fun h => hp ⟨p1, h⟩
              clear hp
              go_wp2_with fail
              refine F1.out.mono ?_
              rintro e w5 ⟨rfl, hb⟩
              have B5 := Lib.hid (B.out.trans (hb.mono B.out.size))
              clear hb
              go_wp2_with fail
              refine (F2.out _ (B4.out.trans (B5.out.mono B4.out.size))).mono ?_
              rintro e w6 ⟨rfl, hb⟩
              have B6 := Lib.hid (B5.out.trans (hb.mono B5.out.size))
              clear hb
              obtain ⟨b0, b1, b2⟩ := BX.out _ (B4.out.trans (B6.out.mono B4.out.size))
              go_wp2
              go_roundw
              case rel => exact ⟨j + 1, by go_num, by omega, B6.out⟩
              case measure => simp [intOf]; omega
            · clear hp
              go_wp2_with fail
              refine F1.out.mono ?_
              rintro e w5 ⟨rfl, hb⟩
              have B5 := Lib.hid (B.out.trans (hb.mono B.out.size))
              clear hb
              go_wp2_with fail
              refine (F2.out _ (B4.out.trans (B5.out.mono B4.out.size))).mono ?_
              rintro e w6 ⟨rfl, hb⟩
              have B6 := Lib.hid (B5.out.trans (hb.mono B5.out.size))
              clear hb
              obtain ⟨b0, b1, b2⟩ := BX.out _ (B4.out.trans (B6.out.mono B4.out.size))
              go_wp2
              go_roundw
              case rel => exact ⟨j + 1, by go_num, by omega, B6.out⟩
              case measure => simp [intOf]; omega
          | some d =>
            rw [hf, says_some] at F1 F2
            clear hf
            by_cases p1 : x ≤ (j : Int)
            · have p2 : ¬ (j : Int) < x + y := fun h => hp ⟨p1, h⟩
              clear hp
              go_wp2_with fail
              refine F1.out.mono ?_
              rintro e w5 ⟨rfl, hb⟩
              have B5 := Lib.hid (B.out.trans (hb.mono B.out.size))
              clear hb
              go_wp2_with fail
              refine (F2.out _ (B4.out.trans (B5.out.mono B4.out.size))).mono ?_
              rintro e w6 ⟨rfl, hb⟩
              have B6 := Lib.hid (B5.out.trans (hb.mono B5.out.size))
              clear hb
              obtain ⟨b0, b1, b2⟩ := BX.out _ (B4.out.trans (B6.out.mono B4.out.size))
              go_wp2
              go_roundw
              case rel => exact ⟨j + 1, by go_num, by omega, B6.out⟩
              case measure => simp [intOf]; omega
            · clear hp
              go_wp2_with fail
              refine F1.out.mono ?_
              rintro e w5 ⟨rfl, hb⟩
              have B5 := Lib.hid (B.out.trans (hb.mono B.out.size))
              clear hb
              go_wp2_with fail
              refine (F2.out _ (B4.out.trans (B5.out.mono B4.out.size))).mono ?_
              rintro e w6 ⟨rfl, hb⟩
              have B6 := Lib.hid (B5.out.trans (hb.mono B5.out.size))
              clear hb
              obtain ⟨b0, b1, b2⟩ := BX.out _ (B4.out.trans (B6.out.mono B4.out.size))
              go_wp2
              go_roundw
              case rel => exact ⟨j + 1, by go_num, by omega, B6.out⟩
              case measure => simp [intOf]; omega
      · obtain rfl : j = 1024 := by omega
        obtain ⟨b0, b1, b2⟩ := BX.out _ (B4.out.trans (B.out.mono B4.out.size))
        clear hlt b2
        go_wp2_with fail
        refine (CU.out _ (M4.out.below B.out)).mono ?_
        rintro e w5 ⟨v5, er5, K, rfl, hk, hat, hb⟩
        obtain ⟨rfl, rfl⟩ := HA.out.undo hk
        have B5 := Lib.hid (B.out.trans (hb.mono B.out.size))
        have K5 := Lib.hid hat
        clear hk hat hb b0 b1
        have G5 := Lib.hid (B4.out.trans (B5.out.mono B4.out.size))
        obtain ⟨a5, c5, rfl⟩ := K5.out.form
        go_wp2_with fail
        refine (sameD _ _ _ _ K5.out (A0.out.below G5.out)).mono ?_
        rintro e w6 ⟨rfl, hb⟩
        have B6 := Lib.hid (G5.out.trans (hb.mono G5.out.size))
        clear hb
        go_wp2_with fail
        refine (awake14 _).mono ?_
        rintro e w7 ⟨rfl, hb⟩
        have B7 := Lib.hid (B6.out.trans (hb.mono B6.out.size))
        clear hb
        go_wp2
        go_ret
        exact ⟨rfl, B0.out.trans (B7.out.mono B0.out.size)⟩
  · have hne : (er != 0) = true := by simpa using hz
    obtain rfl : M = [] := two_bad HA.out hz
    obtain rfl : m = 0 := HM.out
    clear hz
    go_wp2_with fail
    refine (awake14 _).mono ?_
    rintro e w2 ⟨rfl, hb⟩
    have B2 := Lib.hid (B1.out.trans (hb.mono B1.out.size))
    clear hb
    go_wp2
    go_ret
    exact ⟨rfl, B0.out.trans (B2.out.mono B0.out.size)⟩
theorem regionBack_walk (v : Value) (L : List Ar) (x y : Int) (b : Bool) (W : World) (h : ArgAr W v L) (hw : WideD (x, y, b)) : Calls Try.prog 6 #[v, .agg #[.int .i64 x, .int .i64 y, .bool b]] W fun e w' => e = .returned (.bool true) ∧ Below W.heap.size W w' := by
  by_cases hl : L.length ≤ 100
  · exact regionBack_near L v x y b hw.1 hw.2 W hl (h.near hl)
  · obtain ⟨a, c, rfl⟩ := h.form
    exact regionBack_far _ c a x y b W (by omega)
end Go.Proofs.Ytmfpoagimedhnaa
