/- The contracts of the document's own Left and Alloc, layer 9. Conditions: the pool lies as its New lays it. -/
import Derived.Test.YtiohnhgoddfebaaDoorA20
namespace Go.Proofs.YtiohnhgoddfebaaDoor
open Go.RowKit
set_option maxRecDepth 100000

theorem freeL_next (f j : Nat) (R : Nat → Nat) : (freeL (f, j + 1) R).length = (freeL (f, j) R).length + if R (f + j) = 0 then 1 else 0 := by
  unfold freeL
  have e : span f (j + 1) = span f j ++ [f + j] := by simp [span, List.range'_concat]
  rw [show ((f, j + 1) : Nat × Nat).1 = f from rfl, show ((f, j + 1) : Nat × Nat).2 = j + 1 from rfl, e, List.filter_append, List.length_append]
  by_cases h : R (f + j) = 0
  · rw [if_pos h]; simp [h]
  · rw [if_neg h]; simp [h]
theorem freeL_zero (f : Nat) (R : Nat → Nat) : freeL (f, 0) R = [] := rfl
theorem inP_at (f m y : Nat) (h : f ≤ y) : inP (f, m) (y : Int) = decide (y < f + m) := by
  rw [Bool.eq_iff_iff, inP_iff, decide_eq_true_eq]
  simp only
  omega
def RLeftRel (w : World) (f m : Nat) (R : Nat → Nat) (cv iv : Value) (wr : World) : Prop := ∃ y : Nat, iv = .int .i64 (y : Int) ∧ f ≤ y ∧ y ≤ f + m ∧ cv = .int .i64 ((freeL (f, y - f) R).length : Int) ∧ Below w.heap.size w wr
set_option maxHeartbeats 1000000 in
theorem rleft_any (Z : ZIx) (L : List Int) (R : Nat → Nat) (k : Int) (w : World) (h : RPoolAt w Z L R) : Calls Tryd.prog 36 #[.agg #[Z.v, .slice (some ⟨Z.rb, 0, none⟩) (Z.n * 32) (Z.n * 32), .slice (some ⟨Z.qb, 0, none⟩) Z.n Z.n], .int .i64 k] w fun e w' => e = .returned (.int .i64 (leftA Z.P R k : Int)) ∧ Below w.heap.size w w' := by
  obtain ⟨aa, cc, hv⟩ := h.sliceV
  have H := Lib.hid h
  have hmany := h.fit.many
  have htop := h.fit.top
  obtain ⟨n, hn⟩ : ∃ n, n = Z.P.length := ⟨_, rfl⟩
  rw [← hn] at hv hmany
  have HN := Lib.hid hn
  rw [hv]
  have BX : Hid (∀ w', Below (w.heap.size + 1) (w.alloc (.cells #[.slice aa n cc, .slice (some ⟨Z.rb, 0, none⟩) (Z.n * 32) (Z.n * 32), .slice (some ⟨Z.qb, 0, none⟩) Z.n Z.n] 37)) w' → w'.cell? ⟨w.heap.size, 0, none⟩ = some (.slice aa n cc) ∧ w'.cell? ⟨w.heap.size, 2, none⟩ = some (.slice (some ⟨Z.qb, 0, none⟩) Z.n Z.n)) := Lib.hid (fun w' hb => by
    have e0 := hb.cell (p := ⟨w.heap.size, 0, none⟩) (Nat.lt_succ_self _)
    have e2 := hb.cell (p := ⟨w.heap.size, 2, none⟩) (Nat.lt_succ_self _)
    rw [e0, e2, cell_of_row _ _ _ _ _ _ (heap_alloc_new w _), cell_of_row _ _ _ _ _ _ (heap_alloc_new w _)]; exact ⟨rfl, rfl⟩)
  have B0 : Hid (Below w.heap.size w (w.alloc (.cells #[.slice aa n cc, .slice (some ⟨Z.rb, 0, none⟩) (Z.n * 32) (Z.n * 32), .slice (some ⟨Z.qb, 0, none⟩) Z.n Z.n] 37))) := Lib.hid ((Below.refl _ _).alloc (Nat.le_refl _) _)
  obtain ⟨w1, hw1⟩ : ∃ w1, w1 = w.alloc (.cells #[.slice aa n cc, .slice (some ⟨Z.rb, 0, none⟩) (Z.n * 32) (Z.n * 32), .slice (some ⟨Z.qb, 0, none⟩) Z.n Z.n] 37) := ⟨_, rfl⟩
  have SZ : Hid (w1.heap.size = w.heap.size + 1) := Lib.hid (by rw [hw1]; simp)
  rw [← hw1] at BX B0
  have HW := Lib.hid hw1
  cases hk : partB Z.P k with
  | false =>
    have hk' : k < 0 ∨ (0 ≤ k ∧ (n : Int) ≤ k) := by
      have : ¬ partB Z.P k = true := by rw [hk]; exact Bool.false_ne_true
      rw [partB_iff, ← hn] at this
      omega
    rw [show leftA Z.P R k = 0 by simp [leftA, hk]]
    clear hn h hv hw1 hk
    rcases hk' with hk | ⟨hk, hk2⟩
    · have q1 : decide (k < 0) = true := decide_eq_true hk
      go_enter Tryd.func36, Tryd.ntmps36
      go_wp2
      go_ret
      rw [← HW.out]
      exact ⟨rfl, B0.out⟩
    · have q1 : decide (k < 0) = false := decide_eq_false (by omega)
      have q2 : decide ((n : Int) ≤ k) = true := decide_eq_true hk2
      go_enter Tryd.func36, Tryd.ntmps36
      go_wp2
      go_ret
      rw [← HW.out]
      exact ⟨rfl, B0.out⟩
  | true =>
    have h1 := (partB_iff _ _).1 hk
    obtain ⟨i, rfl⟩ := Int.eq_ofNat_of_zero_le h1.1
    have hi : i < n := by omega
    obtain ⟨b, o, c, f, m, hv2, hbw, hP, hfm, e0, e1⟩ := h.row i (by rw [← hn]; exact hi)
    obtain ⟨rfl, rfl⟩ : aa = some ⟨b, o, none⟩ ∧ cc = c := by rw [hv, ← hn] at hv2; cases hv2; exact ⟨rfl, rfl⟩
    have hrng := (h.fit.rng i (by rw [← hn]; exact hi)).2
    rw [hP] at hrng
    simp only at hrng
    have LE : Hid (leftA Z.P R (i : Int) = (freeL (f, m) R).length) := Lib.hid (by rw [leftA, hk, if_pos rfl, Int.toNat_natCast, hP])
    have q1 : decide ((i : Int) < 0) = false := decide_eq_false (by omega)
    have q2 : decide (n ≤ i) = false := decide_eq_false (by omega)
    have E0 := Lib.hid e0
    have E1 := Lib.hid e1
    have d0 : w1.cell? ⟨b, o + i * 2, none⟩ = some (.int .i64 (f : Int)) := (B0.out.cell (p := ⟨b, o + i * 2, none⟩) hbw).trans e0
    obtain ⟨bx0, bx2⟩ := BX.out w1 (Below.refl _ _)
    have hWn : w.alloc (.cells #[.slice (some ⟨b, o, none⟩) n cc, .slice (some ⟨Z.rb, 0, none⟩) (Z.n * 32) (Z.n * 32), .slice (some ⟨Z.qb, 0, none⟩) Z.n Z.n] 37) = w1 := hw1.symm
    have hbn : b < w.heap.size := hbw
    have x0 : w.cell? ⟨b, o + i * 2, none⟩ = some (.int .i64 (f : Int)) := e0
    clear hn h hv hw1 hk hv2 hP e0 e1 h1 d0 bx0 bx2 hWn
    go_enter Tryd.func36, Tryd.ntmps36
    go_wp2_with fail
    rw [← HW.out]
    go_loopw [5, 6] (fun cv iv wr => RLeftRel w1 f m R cv iv wr) (fun _ iv _ => f + m - (intOf iv).toNat)
    case atStart => exact ⟨f, rfl, Nat.le_refl _, by omega, by rw [Nat.sub_self, freeL_zero]; rfl, Below.refl _ _⟩
    case round =>
      obtain ⟨y, rfl, hy1, hy2, rfl, hB⟩ := hrel
      have B := Lib.hid hB
      obtain ⟨bx0, bx2⟩ := BX.out wr (hB.mono (by rw [SZ.out]; exact Nat.le_refl _))
      have B2 := Lib.hid (B0.out.trans (B.out.mono B0.out.size))
      have d0 := (B2.out.cell (p := ⟨b, o + i * 2, none⟩) hbn).trans E0.out
      have d1 := (B2.out.cell (p := ⟨b, o + i * 2 + 1, none⟩) hbn).trans E1.out
      have IN := Lib.hid (inP_at f m y hy1)
      clear hB
      have hcl : (freeL (f, y - f) R).length ≤ y - f := by
        have := List.length_filter_le (fun x => R x == 0) (span f (y - f))
        rw [span_length] at this
        exact this
      by_cases hlt : y < f + m
      · rw [decide_eq_true hlt] at IN
        have hyn : y < Z.n := by omega
        have NX := Lib.hid (freeL_next f (y - f) R)
        rw [show f + (y - f) = y by omega, show y - f + 1 = y + 1 - f by omega] at NX
        have CQ := Lib.hid (fun w' (h' : RPoolAt w' Z L R) => h'.cq y hyn)
        generalize (freeL (f, y - f) R).length = cl at *
        by_cases h0 : R y = 0
        · rw [if_pos h0] at NX
          rw [h0] at CQ
          clear h0
          go_wp2_with (go_at_call 29; refine (rin9_is (p := (f, m)) IN.out hfm _).mono ?_; rintro e w2 ⟨rfl, hb⟩
                       have B3 := Lib.hid (B.out.trans (hb.mono B.out.size))
                       have bx2 := (BX.out w2 (B3.out.mono (by rw [SZ.out]; exact Nat.le_refl _))).2
                       have cq := CQ.out w2 (H.out.below (B2.out.trans (hb.mono B2.out.size)))
                       clear hb)
          go_roundw
          case rel => exact ⟨y + 1, by go_num, by omega, by omega, by rw [NX.out]; go_num, B3.out⟩
          case measure => simp [intOf]; omega
        · rw [if_neg h0] at NX
          obtain ⟨z, hz⟩ : ∃ z, R y = z + 1 := ⟨R y - 1, by omega⟩
          have hz64 := H.out.fit.most y
          rw [hz] at CQ hz64
          rw [show ((z + 1 : Nat) : Int) = (z : Int) + 1 by omega] at CQ
          have g1 : ((z : Int) + 1 == 0) = false := by simp; omega
          clear h0 hz
          go_wp2_with (go_at_call 29; refine (rin9_is (p := (f, m)) IN.out hfm _).mono ?_; rintro e w2 ⟨rfl, hb⟩
                       have B3 := Lib.hid (B.out.trans (hb.mono B.out.size))
                       have bx2 := (BX.out w2 (B3.out.mono (by rw [SZ.out]; exact Nat.le_refl _))).2
                       have cq := CQ.out w2 (H.out.below (B2.out.trans (hb.mono B2.out.size)))
                       clear hb)
          go_roundw
          case rel => exact ⟨y + 1, by go_num, by omega, by omega, by rw [NX.out]; rfl, B3.out⟩
          case measure => simp [intOf]; omega
      · rw [decide_eq_false hlt] at IN
        obtain rfl : y = f + m := by omega
        have LE2 : Hid ((freeL (f, f + m - f) R).length = leftA Z.P R (i : Int)) := Lib.hid (by rw [LE.out, show f + m - f = m by omega])
        rw [LE2.out]
        obtain ⟨ll, hll⟩ : ∃ ll, leftA Z.P R (i : Int) = ll := ⟨_, rfl⟩
        have HLL := Lib.hid hll
        rw [hll]
        clear hll
        go_wp2_with (go_at_call 29; refine (rin9_is (p := (f, m)) IN.out hfm _).mono ?_; rintro e w2 ⟨rfl, hb⟩; have B3 := Lib.hid (B2.out.trans (hb.mono B2.out.size)); clear hb)
        go_ret
        exact ⟨by rw [HLL.out]; rfl, B3.out⟩
theorem rleft_is {Z : ZIx} {k : Int} {c : Nat} {R : Nat → Nat} (hc : leftA Z.P R k = c) {L : List Int} {w : World} (h : RPoolAt w Z L R) : Calls Tryd.prog 36 #[.agg #[Z.v, .slice (some ⟨Z.rb, 0, none⟩) (Z.n * 32) (Z.n * 32), .slice (some ⟨Z.qb, 0, none⟩) Z.n Z.n], .int .i64 k] w fun e w' => e = .returned (.int .i64 (c : Int)) ∧ Below w.heap.size w w' := by
  subst hc; exact rleft_any Z L R k w h

theorem RPoolAt.memM {w : World} {Z : ZIx} {L : List Int} {R : Nat → Nat} (h : RPoolAt w Z L R) : RefM w Z.rp Z.rb Z.n L := ⟨⟨_, h.box, rfl⟩, h.words, h.len, kind_ne h.box h.words (by simp [kindOf]), h.fit.top⟩
theorem RPoolAt.putM {w w' : World} {Z : ZIx} {L L' : List Int} {R : Nat → Nat} (h : RPoolAt w Z L R) (k : RPutsM w w' Z.rp Z.rb Z.n L') : RMoves w w' Z L' R := by
  have hg := k.grown
  exact ⟨⟨box_grown h.box hg h.words (by simp [kindOf]), k.st.row, k.st.len, box_grown h.refs hg h.words (by simp [kindOf]), h.rng.grown hg (fun b e => by have := h.lv b e; have := h.l1; omega), h.lv, h.l1, h.l2, h.fit⟩, Only.grown hg (Or.inl rfl)⟩
theorem RMoves.next {w w1 w' : World} {Z : ZIx} {L L' : List Int} {R R' : Nat → Nat} (h : RMoves w w1 Z L R) (k : RMoves w1 w' Z L' R') : RMoves w w' Z L' R' := ⟨k.st, h.only.trans k.only⟩
def RAllocRel (w : World) (f m : Nat) (R : Nat → Nat) (iv : Value) (wr : World) : Prop := ∃ y : Nat, iv = .int .i64 (y : Int) ∧ f ≤ y ∧ y ≤ f + m ∧ (∀ x, f ≤ x → x < y → R x ≠ 0) ∧ Below w.heap.size w wr
set_option maxHeartbeats 1000000 in
theorem ralloc_any (Z : ZIx) (L : List Int) (R : Nat → Nat) (k : Int) (w : World) (h : RPoolAt w Z L R) : Calls Tryd.prog 30 #[.pointer (some ⟨Z.rp, 0, none⟩), .int .i64 k] w fun e w' => e = .returned (.tuple #[.int .i64 (allocA Z.P R k).1, .int .i64 (allocA Z.P R k).2]) ∧ RMoves w w' Z (allocL Z.P R k L) (allocR Z.P R k) := by
  obtain ⟨aa, cc, hv⟩ := h.sliceV
  have H := Lib.hid h
  have hmany := h.fit.many
  have htop := h.fit.top
  obtain ⟨n, hn⟩ : ∃ n, n = Z.P.length := ⟨_, rfl⟩
  rw [← hn] at hv hmany
  have HN := Lib.hid hn
  have HV := Lib.hid hv
  have c0 := h.c0
  rw [hv] at c0
  cases hk : partB Z.P k with
  | false =>
    have hk' : k < 0 ∨ (0 ≤ k ∧ (n : Int) ≤ k) := by
      have : ¬ partB Z.P k = true := by rw [hk]; exact Bool.false_ne_true
      rw [partB_iff, ← hn] at this
      omega
    rw [show allocA Z.P R k = (0, 2) by simp [allocA, hk], show allocL Z.P R k L = L by simp [allocL, hk], show allocR Z.P R k = R by simp [allocR, hk]]
    clear hn h hv hk
    rcases hk' with hk | ⟨hk, hk2⟩
    · have q1 : decide (k < 0) = true := decide_eq_true hk
      go_enter Tryd.func30, Tryd.ntmps30
      go_wp2
      go_ret2
      exact ⟨rfl, RMoves.stay H.out (Below.refl _ _)⟩
    · have q1 : decide (k < 0) = false := decide_eq_false (by omega)
      have q2 : decide ((n : Int) ≤ k) = true := decide_eq_true hk2
      go_enter Tryd.func30, Tryd.ntmps30
      go_wp2
      go_ret2
      exact ⟨rfl, RMoves.stay H.out (Below.refl _ _)⟩
  | true =>
    have h1 := (partB_iff _ _).1 hk
    obtain ⟨i, rfl⟩ := Int.eq_ofNat_of_zero_le h1.1
    have hi : i < n := by omega
    obtain ⟨b, o, c, f, m, hv2, hbw, hP, hfm, e0, e1⟩ := h.row i (by rw [← hn]; exact hi)
    obtain ⟨rfl, rfl⟩ : aa = some ⟨b, o, none⟩ ∧ cc = c := by rw [hv, ← hn] at hv2; cases hv2; exact ⟨rfl, rfl⟩
    have hrng := (h.fit.rng i (by rw [← hn]; exact hi)).2
    rw [hP] at hrng
    simp only at hrng
    have LE : Hid (∀ L : List Int, (allocA Z.P R (i : Int) = (match freeL (f, m) R with | [] => (0, 3) | x :: _ => ((x : Int), 0))) ∧ allocL Z.P R (i : Int) L = (match freeL (f, m) R with | [] => L | x :: _ => putRow L x zeros) ∧ allocR Z.P R (i : Int) = (match freeL (f, m) R with | [] => R | x :: _ => upd R x 1)) := Lib.hid (fun L => by
      simp only [allocA, allocL, allocR, hk, if_true, Int.toNat_natCast, hP]
      exact ⟨rfl, rfl, rfl⟩)
    have q1 : decide ((i : Int) < 0) = false := decide_eq_false (by omega)
    have q2 : decide (n ≤ i) = false := decide_eq_false (by omega)
    have E0 := Lib.hid e0
    have E1 := Lib.hid e1
    have HP := Lib.hid hP
    clear hn h hv hk hv2 hP e1 h1
    go_enter Tryd.func30, Tryd.ntmps30
    go_wp2_with fail
    clear e0 c0
    go_loopw [6] (fun iv wr => RAllocRel w f m R iv wr) (fun iv _ => f + m - (intOf iv).toNat)
    case atStart => exact ⟨f, rfl, Nat.le_refl _, by omega, fun x h1 h2 => by omega, Below.refl _ _⟩
    case round =>
      obtain ⟨y, rfl, hy1, hy2, hall, hB⟩ := hrel
      have ALL := Lib.hid hall
      have B := Lib.hid hB
      have H2 := Lib.hid (H.out.below hB)
      have c0 := H2.out.c0
      rw [HV.out] at c0
      have d0 := (B.out.cell (p := ⟨b, o + i * 2, none⟩) hbw).trans E0.out
      have d1 := (B.out.cell (p := ⟨b, o + i * 2 + 1, none⟩) hbw).trans E1.out
      have IN := Lib.hid (inP_at f m y hy1)
      clear hB hall
      by_cases hlt : y < f + m
      · rw [decide_eq_true hlt] at IN
        have hyn : y < Z.n := by omega
        have CQ := Lib.hid (fun w' (h' : RPoolAt w' Z L R) => h'.cq y hyn)
        by_cases h0 : R y = 0
        · obtain ⟨r, hr⟩ := head_of (freeL_up (f, m) R) ((mem_freeL (f, m) R y).2 ⟨⟨hy1, hlt⟩, h0⟩) (fun x hx => by
            have hx := (mem_freeL (f, m) R x).1 hx
            by_cases e : x < y
            · exact absurd hx.2 (ALL.out x hx.1.1 e)
            · omega)
          have EA : Hid (allocA Z.P R (i : Int) = ((y : Int), 0) ∧ allocL Z.P R (i : Int) L = putRow L y zeros ∧ allocR Z.P R (i : Int) = upd R y 1) := Lib.hid (by
            have := LE.out L
            rw [hr] at this
            exact this)
          have FF := Lib.hid (H.out.fit.upd i y 1 (by rw [← HN.out]; exact hi) (by rw [HP.out, inP_at f m y hy1]; exact decide_eq_true hlt) (by omega))
          rw [h0] at CQ
          clear h0 hr
          go_wp2_with (first
            | (go_at_call 29; refine (rin9_is (p := (f, m)) IN.out hfm _).mono ?_; rintro e w2 ⟨rfl, hb⟩
               have B3 := Lib.hid (B.out.trans (hb.mono B.out.size))
               have H3 := Lib.hid (H2.out.below hb)
               have c0 := H3.out.c0
               have c1 := H3.out.c1
               have c2 := H3.out.c2
               have cq := CQ.out w2 H3.out
               have fq := H3.out.fq y
               have M3 := Lib.hid (H3.out.setq y 1 hyn FF.out)
               have hne : Z.rp ≠ Z.qb := kind_ne H3.out.box H3.out.refs (by simp [kindOf])
               clear hb)
            | (go_at_call 52; refine (rzeroM_yes Z.rp Z.rb Z.n y L _ M3.out.st.memM hyn).mono ?_; rintro e w4 ⟨rfl, hp⟩
               have M4 := Lib.hid (M3.out.next (M3.out.st.putM hp))
               clear hp))
          go_ret2
          rw [EA.out.1, EA.out.2.1, EA.out.2.2]
          exact ⟨rfl, RMoves.ahead B3.out M4.out⟩
        · have ALL1 : Hid (∀ x, f ≤ x → x < y + 1 → R x ≠ 0) := Lib.hid (fun x h1 h2 => by
            by_cases e : x = y
            · subst e; exact h0
            · exact ALL.out x h1 (by omega))
          obtain ⟨z, hz⟩ : ∃ z, R y = z + 1 := ⟨R y - 1, by omega⟩
          have hz64 := H.out.fit.most y
          rw [hz] at CQ hz64
          rw [show ((z + 1 : Nat) : Int) = (z : Int) + 1 by omega] at CQ
          have g1 : ((z : Int) + 1 == 0) = false := by simp; omega
          clear h0 hz
          go_wp2_with (go_at_call 29; refine (rin9_is (p := (f, m)) IN.out hfm _).mono ?_; rintro e w2 ⟨rfl, hb⟩
                       have B3 := Lib.hid (B.out.trans (hb.mono B.out.size))
                       have c2 := (H2.out.below hb).c2
                       have cq := CQ.out w2 (H2.out.below hb)
                       clear hb)
          go_roundw
          case rel => exact ⟨y + 1, by go_num, by omega, by omega, ALL1.out, B3.out⟩
          case measure => simp [intOf]; omega
      · rw [decide_eq_false hlt] at IN
        have EA : Hid (allocA Z.P R (i : Int) = (0, 3) ∧ allocL Z.P R (i : Int) L = L ∧ allocR Z.P R (i : Int) = R) := Lib.hid (by
          have hnil : freeL (f, m) R = [] := by
            rw [List.eq_nil_iff_forall_not_mem]
            intro x hx
            have hx := (mem_freeL (f, m) R x).1 hx
            exact ALL.out x hx.1.1 (by have := hx.1.2; simp only at this; omega) hx.2
          have := LE.out L
          rw [hnil] at this
          exact this)
        go_wp2_with (go_at_call 29; refine (rin9_is (p := (f, m)) IN.out hfm _).mono ?_; rintro e w2 ⟨rfl, hb⟩; have B3 := Lib.hid (B.out.trans (hb.mono B.out.size)); clear hb)
        go_ret2
        rw [EA.out.1, EA.out.2.1, EA.out.2.2]
        exact ⟨rfl, RMoves.stay H.out B3.out⟩
end Go.Proofs.YtiohnhgoddfebaaDoor
