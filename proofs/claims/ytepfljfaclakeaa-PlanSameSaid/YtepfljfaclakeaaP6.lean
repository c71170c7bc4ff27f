/- The contracts of package plan's Own, Traps, Chan, Major. Conditions: the configuration's lists lie in memory. -/
import Derived.Test.YtepfljfaclakeaaP5
namespace Go.Proofs.Ytepfljfaclakeaa
open Go.RowKit Go.Shelf
attribute [local go_sem] Oper.semAt_some
set_option maxRecDepth 100000

/-- The three numbers of an answer. -/
def ans3 (r : Int × Int × Int) : Ending := .returned (.tuple #[.int .i64 r.1, .int .i64 r.2.1, .int .i64 r.2.2])
theorem own_ok (v1 v2 v3 : Value) (C : Cf) (k : Int) (w : World) (h : CfAt w v1 v2 v3 C) : Calls Try.prog 10 #[.agg #[v1, v2, v3], .int .i64 k] w fun e w' => e = ans3 (findA C (0, k)) ∧ Below w.heap.size w w' := by
  obtain ⟨w1, hw1⟩ : ∃ w1, w1 = w.alloc (.cells #[v1, v2, v3] 26) := ⟨_, rfl⟩
  have hb1 : Below w.heap.size w w1 := by rw [hw1]; exact (Below.refl _ _).alloc (Nat.le_refl _) _
  have hx : CBox w1 w.heap.size v1 v2 v3 := by rw [hw1]; exact CBox.new w _ _ _
  have HC := Lib.hid (h.below hb1)
  have c0 := hx.c0
  have c1 := hx.c1
  have c2 := hx.c2
  clear h hx
  go_enter Try.func10, Try.ntmps10
  go_wp2_with fail
  rw [← hw1]
  clear hw1
  refine (find_ok v1 v2 v3 C _ _ _ HC.out).mono ?_
  rintro e w2 ⟨rfl, hb⟩
  have K := Lib.hid (hb1.trans (hb.mono hb1.size))
  clear hb hb1
  obtain ⟨r, hr⟩ : ∃ r, r = findA C (0, k) := ⟨_, rfl⟩
  rw [← hr]
  have HRR := Lib.hid hr
  clear hr
  go_wp2
  refine ⟨rfl, .tuple #[.int .i64 r.1, .int .i64 r.2.1, .int .i64 r.2.2], ?_, by rw [← HRR.out]; rfl, K.out⟩
  simp [results, Try.results10, go_sem]
theorem traps_ok (v1 v2 v3 : Value) (C : Cf) (k : Int) (w : World) (h : CfAt w v1 v2 v3 C) : Calls Try.prog 12 #[.agg #[v1, v2, v3], .int .i64 k] w fun e w' => e = ans3 (findA C (1, k)) ∧ Below w.heap.size w w' := by
  obtain ⟨w1, hw1⟩ : ∃ w1, w1 = w.alloc (.cells #[v1, v2, v3] 26) := ⟨_, rfl⟩
  have hb1 : Below w.heap.size w w1 := by rw [hw1]; exact (Below.refl _ _).alloc (Nat.le_refl _) _
  have hx : CBox w1 w.heap.size v1 v2 v3 := by rw [hw1]; exact CBox.new w _ _ _
  have HC := Lib.hid (h.below hb1)
  have c0 := hx.c0
  have c1 := hx.c1
  have c2 := hx.c2
  clear h hx
  go_enter Try.func12, Try.ntmps12
  go_wp2_with fail
  rw [← hw1]
  clear hw1
  refine (find_ok v1 v2 v3 C _ _ _ HC.out).mono ?_
  rintro e w2 ⟨rfl, hb⟩
  have K := Lib.hid (hb1.trans (hb.mono hb1.size))
  clear hb hb1
  obtain ⟨r, hr⟩ : ∃ r, r = findA C (1, k) := ⟨_, rfl⟩
  rw [← hr]
  have HRR := Lib.hid hr
  clear hr
  go_wp2
  refine ⟨rfl, .tuple #[.int .i64 r.1, .int .i64 r.2.1, .int .i64 r.2.2], ?_, by rw [← HRR.out]; rfl, K.out⟩
  simp [results, Try.results12, go_sem]
theorem chan_ok (v1 v2 v3 : Value) (C : Cf) (k : Int) (w : World) (h : CfAt w v1 v2 v3 C) : Calls Try.prog 14 #[.agg #[v1, v2, v3], .int .i64 k] w fun e w' => e = ans3 (findA C (2, k)) ∧ Below w.heap.size w w' := by
  obtain ⟨w1, hw1⟩ : ∃ w1, w1 = w.alloc (.cells #[v1, v2, v3] 26) := ⟨_, rfl⟩
  have hb1 : Below w.heap.size w w1 := by rw [hw1]; exact (Below.refl _ _).alloc (Nat.le_refl _) _
  have hx : CBox w1 w.heap.size v1 v2 v3 := by rw [hw1]; exact CBox.new w _ _ _
  have HC := Lib.hid (h.below hb1)
  have c0 := hx.c0
  have c1 := hx.c1
  have c2 := hx.c2
  clear h hx
  go_enter Try.func14, Try.ntmps14
  go_wp2_with fail
  rw [← hw1]
  clear hw1
  refine (find_ok v1 v2 v3 C _ _ _ HC.out).mono ?_
  rintro e w2 ⟨rfl, hb⟩
  have K := Lib.hid (hb1.trans (hb.mono hb1.size))
  clear hb hb1
  obtain ⟨r, hr⟩ : ∃ r, r = findA C (2, k) := ⟨_, rfl⟩
  rw [← hr]
  have HRR := Lib.hid hr
  clear hr
  go_wp2
  refine ⟨rfl, .tuple #[.int .i64 r.1, .int .i64 r.2.1, .int .i64 r.2.2], ?_, by rw [← HRR.out]; rfl, K.out⟩
  simp [results, Try.results14, go_sem]

theorem laidL_length {κ : Type} : ∀ (s : Int) (L : List (κ × Int)), (laidL s L).length = L.length
  | _, [] => rfl
  | s, x :: L => by rw [laidL, List.length_cons, laidL_length, List.length_cons]
theorem laidL_take {κ : Type} : ∀ (s : Int) (L : List (κ × Int)) (n : Nat), (laidL s L).take n = laidL s (L.take n)
  | _, _, 0 => by simp [laidL]
  | _, [], n + 1 => by simp [laidL]
  | s, x :: L, n + 1 => by rw [laidL, List.take_succ_cons, List.take_succ_cons, laidL, laidL_take]
/-- What comes before a range, and it. -/
theorem laidL_split {κ : Type} {L : List (κ × Int)} {pre : List (κ × (Int × Int))} {x : κ × (Int × Int)} (h : pre ++ [x] <+: laidL 0 L) : ∃ M y, M ++ [y] <+: L ∧ pre = laidL 0 M ∧ x = (y.1, (sumL M, y.2)) := by
  have hl := h.length_le
  rw [laidL_length, List.length_append, List.length_singleton] at hl
  have e := List.prefix_iff_eq_take.1 h
  rw [laidL_take, List.length_append, List.length_singleton, List.take_succ_eq_append_getElem (by omega), laidL_snoc, Int.zero_add] at e
  obtain ⟨e1, e2⟩ := List.append_inj' e rfl
  refine ⟨L.take pre.length, L[pre.length], ?_, e1, by simpa using e2⟩
  rw [← List.take_succ_eq_append_getElem (by omega)]
  exact List.take_prefix _ _
theorem laid_bound {κ : Type} {L : List (κ × Int)} (hL : Small L) {pre : List (κ × (Int × Int))} {x : κ × (Int × Int)} (h : pre ++ [x] <+: laidL 0 L) : 0 ≤ x.2.1 ∧ x.2.1 ≤ 1000000 ∧ 0 ≤ x.2.1 + x.2.2 ∧ x.2.1 + x.2.2 ≤ 1000000 := by
  obtain ⟨M, y, hM, -, rfl⟩ := laidL_split h
  have h1 := hL M ((List.prefix_append M [y]).trans hM)
  have h2 := hL _ hM
  rw [sumL_snoc] at h2
  exact ⟨h1.1, h1.2, h2.1, h2.2⟩
theorem mayB_wins {C : Cf} (h : mayB C = true) : 1 ≤ C.2.1.length ∧ C.2.1.length ≤ 32 ∧ ∀ T ∈ C.2.1, winB C.1.length T = true := by
  simp only [mayB, Bool.and_eq_true, inB, decide_eq_true_eq, List.all_eq_true] at h
  obtain ⟨-, ⟨⟨w1, w2⟩, w3⟩, -, -⟩ := h
  exact ⟨by omega, by omega, w3⟩
theorem winB_le (n : Nat) (T : Row) (h : winB n T = true) : (0 ≤ T.getD 0 0 ∧ T.getD 0 0 < n) ∧ 1 ≤ T.getD 1 0 ∧ T.getD 1 0 ≤ 255 := by
  simp only [winB, inB, Bool.and_eq_true, decide_eq_true_eq] at h
  omega
theorem winN_length (S : List Row) (n : Nat) : (winN S n).length = n := by simp [winN]
theorem winL_small {C : Cf} (hm : mayB C = true) : Small (winL C) := by
  obtain ⟨w1, w2, w3⟩ := mayB_wins hm
  refine small_of _ (fun x hx => ?_) (by rw [winL, winN_length]; omega)
  obtain ⟨i, hi, rfl⟩ := mem_winL hx
  have := winB_le _ _ (w3 _ (getD_mem hi))
  simp only [winAt]; omega
abbrev LaidW := Int × (Int × Int)
/-- Where the last range ends. -/
def endL (pre : List LaidW) : Int := match pre.getLast? with | some x => x.2.1 + x.2.2 | none => 0
theorem endL_snoc (pre : List LaidW) (x : LaidW) : endL (pre ++ [x]) = x.2.1 + x.2.2 := by simp [endL]
theorem endL_laid (L : List WinE) : endL (laidL 0 L) = sumL L := by
  rcases List.eq_nil_or_concat L with rfl | ⟨M, y, rfl⟩
  · rfl
  · rw [List.concat_eq_append, laidL_snoc, endL_snoc, sumL_snoc, Int.zero_add]
/-- What Major answers. -/
def majorA (C : Cf) : Int := if chk C = 0 then sumL (winL C) else 0
structure MajSt (w V : World) (b : Nat) (x : Int) : Prop where
  bel : Below w.heap.size w V
  end_ : Boxed V b 3 (.int .i64 x)
theorem MajSt.hangs {β : Type} {w : World} {b B : Nat} (hw : w.heap.size ≤ B) (hb : b < B) (f : β → Int) : Hangs B (fun s V => MajSt w V b (f s)) :=
  fun _ _ _ h hb' => ⟨h.bel.trans (hb'.mono hw), (hb'.block _ (by omega)).trans h.end_⟩
set_option maxHeartbeats 4000000 in
theorem major_ok (v1 v2 v3 : Value) (C : Cf) (w : World) (h : CfAt w v1 v2 v3 C) :
    Calls Try.prog 18 #[.agg #[v1, v2, v3]] w fun e w' => e = .returned (.tuple #[.int .i64 (majorA C), .int .i64 (chk C)]) ∧ Below w.heap.size w w' := by
  obtain ⟨W1, hW1⟩ : ∃ W1, W1 = w.alloc (.cells #[v1, v2, v3] 26) := ⟨_, rfl⟩
  have hb1 : Below w.heap.size w W1 := by rw [hW1]; exact (Below.refl _ _).alloc (Nat.le_refl _) _
  have hx : CBox W1 w.heap.size v1 v2 v3 := by rw [hW1]; exact CBox.new w _ _ _
  have hz1 : W1.heap.size = w.heap.size + 1 := by rw [hW1]; simp
  have HC := Lib.hid (h.below hb1)
  have H0 := Lib.hid h
  have X1 := Lib.hid hx
  have B1 := Lib.hid hb1
  have c0 := hx.c0
  have c1 := hx.c1
  have c2 := hx.c2
  clear h hx hb1
  refine (callsIn_wide (n := 12)).1 ?_
  refine callsIn_of_wp_marks Try.func18 rfl trivial ?_ rfl
  simp only [Try.ntmps18, List.size_toArray, List.length_cons, List.length_nil, Nat.reduceAdd, Nat.reduceSub, Array.replicate_succ, Array.replicate_zero, List.push_toArray, List.append_toArray, List.nil_append, List.cons_append]
  gi_wp2
  refine ⟨trivial, ?_⟩
  rw [← hW1]
  clear hW1
  refine (callsIn_wide.2 (check_ok v1 v2 v3 C W1 HC.out)).mono ?_
  rintro e W2 ⟨rfl, hb⟩
  have X2 := Lib.hid (X1.out.below hb)
  have B2 := Lib.hid (B1.out.trans (hb.mono B1.out.size))
  have hz2 : w.heap.size + 1 ≤ W2.heap.size := by rw [← hz1]; exact hb.size
  clear hb hz1 X1 B1 HC c0 c1 c2
  clear W1
  by_cases hk : chk C = 0
  · rw [hk]
    have c0 := X2.out.c0
    have c1 := X2.out.c1
    have c2 := X2.out.c2
    have hm := (chk_zero hk).1
    have hlt2 : w.heap.size < W2.heap.size := by omega
    obtain ⟨W3, hW3⟩ : ∃ W3, W3 = ((W2.alloc (.cells #[.int .i64 0] 3)).alloc (.cells #[v1, v2, v3] 26)).alloc (.cells #[.func (.func 39) #[] #[.pointer (some ⟨W2.heap.size + 1, 0, none⟩)]] 59) := ⟨_, rfl⟩
    obtain ⟨Wa, hWa⟩ : ∃ Wa, Wa = W2.alloc (.cells #[.int .i64 0] 3) := ⟨_, rfl⟩
    have hza : Wa.heap.size = W2.heap.size + 1 := by rw [hWa]; simp
    have hba : Below W2.heap.size W2 Wa := by rw [hWa]; exact (Below.refl _ _).alloc (Nat.le_refl _) _
    have hz3 : W3.heap.size = W2.heap.size + 3 := by rw [hW3]; simp
    have hb3 : Below W2.heap.size W2 W3 := by rw [hW3]; exact below_three _ _ _ _
    have hx3 : CBox W3 (W2.heap.size + 1) v1 v2 v3 := by rw [hW3, ← hWa, ← hza]; exact (CBox.new Wa _ _ _).below ((Below.refl _ _).alloc (Nat.le_refl _) _)
    have hs3 : W3.cell? ⟨W2.heap.size + 1 + 1, 0, none⟩ = some (.func (.func 39) #[] #[.pointer (some ⟨W2.heap.size + 1, 0, none⟩)]) := by rw [hW3, ← hWa, ← hza, cell_of_row _ _ _ _ _ _ (heap_alloc2_new Wa _ _)]; rfl
    have he3 : MajSt w W3 W2.heap.size 0 := ⟨B2.out.trans (hb3.mono B2.out.size), by rw [hW3]; exact ((Boxed.new W2 _ _).alloc _).alloc _⟩
    have hK : ∀ k, k < w.heap.size → k < W3.heap.size := by intro k h; omega
    have hseq := laidW_seq (W2.heap.size + 1 + 1) 39 #[.pointer (some ⟨W2.heap.size + 1, 0, none⟩)] (enters Try.func39 rfl rfl) (winL C) (winL_small hm) (fun k => k < w.heap.size) W3
      (windows_seq (W2.heap.size + 1) v1 v2 v3 C w W3 H0.out he3.bel hx3 _ (fun k h => h)) hs3 hK
    clear hs3 hx3 hb3 hba
    gi_wp2_with (first
      | (refine ⟨trivial, ?_⟩; gi_at_call 27; refine (callsIn_wide.2 (mkWindows_ok _ _ _ _)).mono ?_; rintro e w' ⟨rfl, rfl⟩)
      | (refine ⟨trivial, ?_⟩; gi_at_call 26; refine (callsIn_wide.2 (mkLaidW_ok _ _ _)).mono ?_; rintro e w' ⟨rfl, rfl⟩))
    rw [← hW3]
    clear hW3 hza hWa c0 c1 c2 X2
    refine range_seq (gf := 38) (lb := #[.pointer (some ⟨W2.heap.size + 1 + 1, 0, none⟩)]) rfl (enters Try.func38 rfl rfl) hseq (Below.refl _ _) (by intro _; rfl) hK
      (fun pre V => MajSt w V W2.heap.size (endL pre))
      (fun _ _ _ => False)
      (MajSt.hangs (by omega) (by omega) endL)
      (fun c => hangs_pure _ _)
      he3
      (fun x a' V => ∃ Br, W2.heap.size < Br ∧ V.heap[Br]? = some (.cells #[.int .i64 x.2.1, .int .i64 x.2.2] 62 (0, 0)) ∧ a' = { tmps := #[.agg #[v1, v2, v3], .pointer (some ⟨w.heap.size, 0, none⟩), .int .i64 0, .int .i64 0, .int .i64 0, .pointer (some ⟨W2.heap.size, 0, none⟩), undef, .pointer (some ⟨Br, 0, none⟩), .agg #[v1, v2, v3], .int .i64 0, .int .i64 0, .bool false, undef, .agg #[v1, v2, v3], .func (.func 39) #[] #[.pointer (some ⟨W2.heap.size + 1, 0, none⟩)], .func (.func 38) #[] #[.pointer (some ⟨W2.heap.size + 1 + 1, 0, none⟩)], .int .i64 x.1, .agg #[.int .i64 x.2.1, .int .i64 x.2.2], undef, undef, undef, undef, undef, undef], defers := [] })
      (fun x a' _ V V' row hs hg hr => by
        obtain ⟨Br, z, h2, h3⟩ := hs
        exact ⟨Br, z, (hg.block Br (lt_of_block h2) (fun e => by obtain ⟨_, o, ho, hc⟩ := hr Br e.symm; rw [h2] at ho; cases ho; cases hc)).trans h2, h3⟩)
      ?assign ?body ?done ?stop
    case assign =>
      rintro l' pre x V D hr hzv hD
      dsimp only [encWR]
      gi_wp2
      exact hD _ _ (Keep.alloc _ _ _ _) ⟨hr.bel.alloc hr.bel.size _, hr.end_.alloc _⟩ ⟨V.heap.size, by omega, heap_alloc_new V _, rfl⟩
    case body =>
      rintro l' pre x a' V hr hzv hpre ⟨Br, z, hbr, rfl⟩
      obtain ⟨t1, t2, t3, t4⟩ := laid_bound (winL_small hm) hpre
      have r0 : V.cell? ⟨Br, 0, none⟩ = some (.int .i64 x.2.1) := by rw [cell_of_row _ _ _ _ _ _ hbr]; rfl
      have r1 : V.cell? ⟨Br, 1, none⟩ = some (.int .i64 x.2.2) := by rw [cell_of_row _ _ _ _ _ _ hbr]; rfl
      have f1 := hr.end_.frozen
      have g1 := hr.end_.cell
      have R := Lib.hid hr
      clear hr hbr
      gi_wp2
      refine ⟨Keep.setCell _ _ _ _ (by omega) (by omega), R.out.bel.setCell (p := ⟨W2.heap.size, 0, none⟩) (by simp only; omega) _, ?_⟩
      rw [endL_snoc]
      exact R.out.end_.set _
    case done =>
      rintro D V hD hr hKD
      have g1 := hr.end_.cell
      rw [endL_laid] at g1
      gi_wp2
      refine ⟨by simp, .inl ⟨_, _, rfl, run_takeDeferred hKD, ?_⟩⟩
      have R5 := MajSt.hangs (B := D) (by omega) (by omega) (fun (_ : Unit) => endL (laidL 0 (winL C))) () V _ hr (below_put D V D (.deferred none) (Nat.le_refl _))
      refine ⟨.tuple #[.int .i64 (sumL (winL C)), .int .i64 0], ?_, by rw [show majorA C = sumL (winL C) by unfold majorA; rw [if_pos hk], hk], R5.bel⟩
      simp [results, Try.results18, go_sem]
    case stop =>
      rintro D c pre V hD hpre hr hKD
      exact hr.elim
  · gi_wp2
    refine ⟨.tuple #[.int .i64 0, .int .i64 (chk C)], ?_, by rw [show majorA C = 0 by unfold majorA; rw [if_neg hk]], B2.out⟩
    simp [results, Try.results18, go_sem]
end Go.Proofs.Ytepfljfaclakeaa
