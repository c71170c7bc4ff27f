/- The contracts of the document's own Refs, Left, Share, Free, layer 9. Conditions: the pool lies as its New lays it. -/
import Derived.Test.YtiohnhgoddfebaaDoorA19
namespace Go.Proofs.YtiohnhgoddfebaaDoor
open Go.RowKit
set_option maxRecDepth 100000

theorem rowner_is {Z : ZIx} {x a e : Int} (ho : ownA Z.P x = (a, e)) {L : List Int} {R : Nat → Nat} {w : World} (h : RPoolAt w Z L R) : Calls Tryd.prog 34 #[.agg #[Z.v, .slice (some ⟨Z.rb, 0, none⟩) (Z.n * 32) (Z.n * 32), .slice (some ⟨Z.qb, 0, none⟩) Z.n Z.n], .int .i64 x] w fun e' w' => e' = .returned (.tuple #[.int .i64 a, .int .i64 e]) ∧ Below w.heap.size w w' := by
  have := rowner_any Z L R x w h
  rwa [ho] at this
/-- What is told of a frame: the owner's answer, and how often it is held. -/
theorem frame_two {n : Nat} {P : List (Nat × Nat)} {R : Nat → Nat} (h : FitP n P R) (x : Int) : (ownA P x = (0, 2) ∧ heldE P R x = 2 ∧ refI R x = 0) ∨ ∃ y i : Nat, x = y ∧ y < n ∧ i < P.length ∧ ownA P x = ((i : Int), 0) ∧ inP (P.getD i (0, 0)) (y : Int) = true ∧ R y ≤ 64 ∧ refI R x = (R y : Int) := by
  rcases frame_ways h x with h1 | ⟨y, i, h1, h2, h3, h4, h5, h6, h7, _⟩ | ⟨y, i, h1, h2, h3, h4, h5, h6, h7, h8, _⟩
  · exact Or.inl h1
  · exact Or.inr ⟨y, i, h1, h2, h3, h4, h5, by omega, by rw [h7, h6]; rfl⟩
  · exact Or.inr ⟨y, i, h1, h2, h3, h4, h5, h7, h8⟩
set_option maxHeartbeats 1000000 in
theorem rrefs_any (Z : ZIx) (L : List Int) (R : Nat → Nat) (x : Int) (w : World) (h : RPoolAt w Z L R) : Calls Tryd.prog 35 #[.agg #[Z.v, .slice (some ⟨Z.rb, 0, none⟩) (Z.n * 32) (Z.n * 32), .slice (some ⟨Z.qb, 0, none⟩) Z.n Z.n], .int .i64 x] w fun e w' => e = .returned (.int .i64 (refI R x)) ∧ Below w.heap.size w w' := by
  have hb := (Below.refl w.heap.size w).alloc (Nat.le_refl _) (.cells #[Z.v, .slice (some ⟨Z.rb, 0, none⟩) (Z.n * 32) (Z.n * 32), .slice (some ⟨Z.qb, 0, none⟩) Z.n Z.n] 37)
  have H := Lib.hid (h.below hb)
  have B := Lib.hid hb
  have BX := Lib.hid (heap_alloc_new w (.cells #[Z.v, .slice (some ⟨Z.rb, 0, none⟩) (Z.n * 32) (Z.n * 32), .slice (some ⟨Z.qb, 0, none⟩) Z.n Z.n] 37))
  rcases frame_two h.fit x with ⟨ho, _, hr⟩ | ⟨y, i, rfl, hy, hi, ho, hin, hm, hr⟩
  · have HO := Lib.hid ho
    rw [hr]
    clear h ho hr hb
    go_enter Tryd.func35, Tryd.ntmps35
    go_wp2_with (go_at_call 34; refine (rowner_is HO.out H.out).mono ?_; rintro e w2 ⟨rfl, hb⟩; have B2 := Lib.hid (B.out.trans (hb.mono B.out.size)); clear hb)
    go_ret
    exact ⟨rfl, B2.out⟩
  · have HO := Lib.hid ho
    rw [hr]
    have hn := h.fit.top
    have CQ := Lib.hid (fun w' (h' : RPoolAt w' Z L R) => h'.cq y hy)
    generalize R y = q at *
    clear h ho hr hb hin hi
    go_enter Tryd.func35, Tryd.ntmps35
    go_wp2_with (go_at_call 34; refine (rowner_is HO.out H.out).mono ?_; rintro e w2 ⟨rfl, hb⟩
                 have B2 := Lib.hid (B.out.trans (hb.mono B.out.size))
                 have bx := below_block hb BX.out
                 have c2 : w2.cell? ⟨w.heap.size, 2, none⟩ = some (.slice (some ⟨Z.qb, 0, none⟩) Z.n Z.n) := by rw [cell_of_row _ _ _ _ _ _ bx]; rfl
                 have cq := CQ.out w2 (H.out.below hb)
                 clear hb bx)
    go_ret
    exact ⟨rfl, B2.out⟩
theorem rrefs_is {Z : ZIx} {x c : Int} {R : Nat → Nat} (hc : refI R x = c) {L : List Int} {w : World} (h : RPoolAt w Z L R) : Calls Tryd.prog 35 #[.agg #[Z.v, .slice (some ⟨Z.rb, 0, none⟩) (Z.n * 32) (Z.n * 32), .slice (some ⟨Z.qb, 0, none⟩) Z.n Z.n], .int .i64 x] w fun e w' => e = .returned (.int .i64 c) ∧ Below w.heap.size w w' := by
  subst hc; exact rrefs_any Z L R x w h

/-- What a call of the document's leaves. -/
structure RMoves (w w' : World) (Z : ZIx) (L : List Int) (R : Nat → Nat) : Prop where
  st : RPoolAt w' Z L R
  only : Only w w' (fun k => k = Z.rb ∨ k = Z.qb)
theorem RMoves.stay {w w' : World} {Z : ZIx} {L : List Int} {R : Nat → Nat} (h : RPoolAt w Z L R) (hb : Below w.heap.size w w') : RMoves w w' Z L R := ⟨h.below hb, Only.below hb⟩
theorem PairsAt.grown {w w' : World} {v : Value} {Q : List (Int × Int)} {r : Nat} (h : PairsAt w v Q) (hg : w.grownBy w' (some r)) (hr : ∀ b, v.ownBlock = some b → b ≠ r) : PairsAt w' v Q := by
  obtain ⟨a, c, rfl, h | ⟨b, o, rfl, hlt, hc⟩⟩ := h
  · exact ⟨a, c, rfl, Or.inl h⟩
  · have e : ∀ j, w'.cell? ⟨b, j, none⟩ = w.cell? ⟨b, j, none⟩ := fun j => World.cell?_of_block (a := ⟨b, j, none⟩) (hg.block b hlt (fun e => hr b rfl (Option.some.inj e)))
    exact ⟨_, c, rfl, Or.inr ⟨b, o, rfl, Nat.lt_of_lt_of_le hlt hg.size, fun i hi => by rw [e, e]; exact hc i hi⟩⟩
theorem RPoolAt.setq {w : World} {Z : ZIx} {L : List Int} {R : Nat → Nat} (h : RPoolAt w Z L R) (y c : Nat) (hy : y < Z.n) (hf : FitP Z.n Z.P (upd R y c)) : RMoves w (w.setCell ⟨Z.qb, y, none⟩ (.int .i64 (c : Int))) Z L (upd R y c) := by
  have hg := grownBy_setCell w Z.qb y (.int .i64 (c : Int))
  have hr := heap_setCell_same w Z.qb y _ _ (.int .i64 (c : Int)) h.refs
  rw [refsV_set _ _ _ _ hy] at hr
  exact ⟨⟨box_grown h.box hg h.refs (by simp [kindOf]), box_grown h.words hg h.refs (by simp [kindOf]), h.len, hr, h.rng.grown hg (fun b e => by have := h.lv b e; have := h.l2; omega), h.lv, h.l1, h.l2, hf⟩, Only.grown hg (Or.inr rfl)⟩
theorem RMoves.drew {w w' : World} {Z : ZIx} {L : List Int} {R : Nat → Nat} (h : RMoves w w' Z L R) : RMoves w w'.drew Z L R := ⟨h.st.below (Below.refl _ _).drew, h.only.trans (Only.below (Below.refl _ _).drew)⟩
theorem RMoves.ahead {w w1 w' : World} {Z : ZIx} {L : List Int} {R : Nat → Nat} (hb : Below w.heap.size w w1) (h : RMoves w1 w' Z L R) : RMoves w w' Z L R := ⟨h.st, (Only.below hb).trans h.only⟩
set_option maxHeartbeats 1000000 in
theorem rshare_any (Z : ZIx) (L : List Int) (R : Nat → Nat) (x : Int) (w : World) (h : RPoolAt w Z L R) : Calls Tryd.prog 31 #[.pointer (some ⟨Z.rp, 0, none⟩), .int .i64 x] w fun e w' => e = .returned (.int .i64 (shareE Z.P R x)) ∧ RMoves w w' Z L (shareR Z.P R x) := by
  have H := Lib.hid h
  have c0 := h.c0
  have c1 := h.c1
  have c2 := h.c2
  rcases frame_two h.fit x with ⟨ho, he, hr⟩ | ⟨y, i, rfl, hy, hi, ho, hin, hm, hr⟩
  · have HO := Lib.hid ho
    obtain ⟨s1, s2, _⟩ := heldE_no h.fit (x := x) (by rw [he]; decide)
    rw [s1, s2, he]
    clear h ho hr he s1 s2
    go_enter Tryd.func31, Tryd.ntmps31
    go_wp2_with (go_at_call 34; refine (rowner_is HO.out H.out).mono ?_; rintro e w2 ⟨rfl, hb⟩; have B2 := Lib.hid hb; clear hb)
    go_ret
    exact ⟨rfl, RMoves.stay H.out B2.out⟩
  · have HO := Lib.hid ho
    have hn := h.fit.top
    have CQ := Lib.hid (fun w' (h' : RPoolAt w' Z L R) => h'.cq y hy)
    by_cases h0 : R y = 0
    · have he : heldE Z.P R (y : Int) = 4 := by simp [heldE, ho, hr, h0]
      obtain ⟨s1, s2, _⟩ := heldE_no h.fit (x := (y : Int)) (by rw [he]; decide)
      rw [s1, s2, he]
      rw [h0] at CQ
      clear h ho hr he s1 s2 hin hi h0 hm
      go_enter Tryd.func31, Tryd.ntmps31
      go_wp2_with (go_at_call 34; refine (rowner_is HO.out H.out).mono ?_; rintro e w2 ⟨rfl, hb⟩
                   have B2 := Lib.hid hb
                   have c2 := (H.out.below hb).c2
                   have cq := CQ.out w2 (H.out.below hb)
                   clear hb)
      go_ret
      exact ⟨rfl, RMoves.stay H.out B2.out⟩
    · have he : heldE Z.P R (y : Int) = 0 := by simp [heldE, ho, hr, h0]
      by_cases h64 : R y = 64
      · have E : shareE Z.P R (y : Int) = 3 := by simp [shareE, he, hr, h64]
        have E2 : shareR Z.P R (y : Int) = R := by simp [shareR, E]
        rw [E, E2]
        rw [h64] at CQ
        clear h ho hr he hin hi h0 hm E E2 h64
        go_enter Tryd.func31, Tryd.ntmps31
        go_wp2_with (go_at_call 34; refine (rowner_is HO.out H.out).mono ?_; rintro e w2 ⟨rfl, hb⟩
                     have B2 := Lib.hid hb
                     have c2 := (H.out.below hb).c2
                     have cq := CQ.out w2 (H.out.below hb)
                     clear hb)
        go_ret
        exact ⟨rfl, RMoves.stay H.out B2.out⟩
      · have E : shareE Z.P R (y : Int) = 0 := by simp [shareE, he, hr]; omega
        have E2 : shareR Z.P R (y : Int) = upd R y (R y + 1) := by simp [shareR, E]
        have FF := Lib.hid (h.fit.upd i y (R y + 1) hi hin (by omega))
        rw [E, E2]
        clear h ho hr he hin hi E E2
        generalize R y = q at *
        have g1 : ((q : Int) == 0) = false := by simp; omega
        have g2 : decide (64 ≤ (q : Int)) = false := decide_eq_false (by omega)
        clear h0
        go_enter Tryd.func31, Tryd.ntmps31
        go_wp2_with (go_at_call 34; refine (rowner_is HO.out H.out).mono ?_; rintro e w2 ⟨rfl, hb⟩
                     have B2 := Lib.hid hb
                     have H2 := Lib.hid (H.out.below hb)
                     have c2 := (H.out.below hb).c2
                     have cq := CQ.out w2 (H.out.below hb)
                     have fq := (H.out.below hb).fq y
                     clear hb)
        go_still_tail 14, (by kernel_rfl)
        go_wp2
        go_ret
        exact ⟨rfl, (RMoves.ahead B2.out (H2.out.setq y (q + 1) hy FF.out)).drew⟩
set_option maxHeartbeats 1000000 in
theorem rfree_any (Z : ZIx) (L : List Int) (R : Nat → Nat) (x : Int) (w : World) (h : RPoolAt w Z L R) : Calls Tryd.prog 32 #[.pointer (some ⟨Z.rp, 0, none⟩), .int .i64 x] w fun e w' => e = .returned (.int .i64 (heldE Z.P R x)) ∧ RMoves w w' Z L (freeR Z.P R x) := by
  have H := Lib.hid h
  have c0 := h.c0
  have c1 := h.c1
  have c2 := h.c2
  rcases frame_two h.fit x with ⟨ho, he, hr⟩ | ⟨y, i, rfl, hy, hi, ho, hin, hm, hr⟩
  · have HO := Lib.hid ho
    obtain ⟨_, _, s2⟩ := heldE_no h.fit (x := x) (by rw [he]; decide)
    rw [s2, he]
    clear h ho hr he s2
    go_enter Tryd.func32, Tryd.ntmps32
    go_wp2_with (go_at_call 34; refine (rowner_is HO.out H.out).mono ?_; rintro e w2 ⟨rfl, hb⟩; have B2 := Lib.hid hb; clear hb)
    go_ret
    exact ⟨rfl, RMoves.stay H.out B2.out⟩
  · have HO := Lib.hid ho
    have hn := h.fit.top
    have CQ := Lib.hid (fun w' (h' : RPoolAt w' Z L R) => h'.cq y hy)
    by_cases h0 : R y = 0
    · have he : heldE Z.P R (y : Int) = 4 := by simp [heldE, ho, hr, h0]
      obtain ⟨_, _, s2⟩ := heldE_no h.fit (x := (y : Int)) (by rw [he]; decide)
      rw [s2, he]
      rw [h0] at CQ
      clear h ho hr he s2 hin hi h0 hm
      go_enter Tryd.func32, Tryd.ntmps32
      go_wp2_with (go_at_call 34; refine (rowner_is HO.out H.out).mono ?_; rintro e w2 ⟨rfl, hb⟩
                   have B2 := Lib.hid hb
                   have c2 := (H.out.below hb).c2
                   have cq := CQ.out w2 (H.out.below hb)
                   clear hb)
      go_ret
      exact ⟨rfl, RMoves.stay H.out B2.out⟩
    · have he : heldE Z.P R (y : Int) = 0 := by simp [heldE, ho, hr, h0]
      have E2 : freeR Z.P R (y : Int) = upd R y (R y - 1) := by simp [freeR, he]
      have FF := Lib.hid (h.fit.upd i y (R y - 1) hi hin (by omega))
      rw [he, E2]
      clear h ho hr he hin hi E2
      obtain ⟨q, hq⟩ : ∃ q, R y = q + 1 := ⟨R y - 1, by omega⟩
      rw [hq] at CQ FF hm ⊢
      rw [show ((q + 1 : Nat) : Int) = (q : Int) + 1 by omega] at CQ
      rw [show q + 1 - 1 = q by omega] at FF ⊢
      have g1 : ((q : Int) + 1 == 0) = false := by simp; omega
      clear h0 hq
      go_enter Tryd.func32, Tryd.ntmps32
      go_wp2_with (go_at_call 34; refine (rowner_is HO.out H.out).mono ?_; rintro e w2 ⟨rfl, hb⟩
                   have B2 := Lib.hid hb
                   have H2 := Lib.hid (H.out.below hb)
                   have c2 := (H.out.below hb).c2
                   have cq := CQ.out w2 (H.out.below hb)
                   have fq := (H.out.below hb).fq y
                   clear hb)
      go_still_tail 14, (by kernel_rfl)
      go_wp2
      go_ret
      exact ⟨rfl, (RMoves.ahead B2.out (H2.out.setq y q hy FF.out)).drew⟩
end Go.Proofs.YtiohnhgoddfebaaDoor
