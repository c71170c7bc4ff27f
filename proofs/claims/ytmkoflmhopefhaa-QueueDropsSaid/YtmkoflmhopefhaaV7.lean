/- A queue of a law's own; what the laws' sentinel does; the walk of QueueNone; a call on both sides. Condition: the rows lie in memory. -/
import Derived.Test.YtmkoflmhopefhaaV6
import Derived.BigQuiet
namespace Go.Proofs.Ytmkoflmhopefhaa
open Go.RowKit
set_option maxRecDepth 100000

/-- A queue of a law's own. -/
structure OwnQ (W w : World) (b : Nat) (L : List Int) : Prop where
  st : QAt w b L
  below : Below W.heap.size W w
  le : W.heap.size ≤ b
theorem OwnQ.to {W w w' : World} {b : Nat} {L K : List Int} (h : OwnQ W w b L) (k : ToV w w' b K) : OwnQ W w' b K := ⟨k.st, ToV.below h.below k h.below.size h.le, h.le⟩
theorem OwnQ.step {W w w' : World} {b : Nat} {L : List Int} (h : OwnQ W w b L) (k : Below w.heap.size w w') : OwnQ W w' b L := ⟨h.st.below k, h.below.trans (k.mono h.below.size), h.le⟩
theorem OwnQ.draws {W w : World} {b : Nat} {L : List Int} (h : OwnQ W w b L) (n : Nat) : OwnQ W (w.drewN n) b L := h.step (below_drawsV w n)
theorem OwnQ.new {W w : World} (hb : Below W.heap.size W w) : Calls Try.prog 9 #[] w fun e w' => ∃ b, e = .returned (.pointer (some ⟨b, 0, none⟩)) ∧ OwnQ W w' b [] ∧ Below w.heap.size w w' :=
  (new_okV w).mono fun _ _ ⟨b, he, h1, h2, h3⟩ => ⟨b, he, ⟨h1, hb.trans (h3.mono hb.size), Nat.le_trans hb.size h2⟩, h3⟩

set_option maxHeartbeats 1000000 in
theorem awake12 (W : World) : Calls Try.prog 8 #[] W fun e w' => e = .returned (.bool true) ∧ Below W.heap.size W w' := by
  go_enter Try.func8, Try.ntmps8
  go_wp2_with fail
  refine (OwnQ.new (Below.refl _ _)).mono ?_
  rintro e w1 ⟨b, rfl, ho, -⟩
  have O1 := Lib.hid ho
  clear ho
  go_wp2_with fail
  refine (push_isV (show pushE [] 3 = 0 by decide) (show pushL [] 3 = [3] by decide) O1.out.st).mono ?_
  rintro e w2 ⟨rfl, ht⟩
  have O2 := Lib.hid (O1.out.to ht)
  clear ht
  go_wp2_with fail
  refine (push_isV (show pushE [3] 1 = 0 by decide) (show pushL [3] 1 = [3, 1] by decide) O2.out.st).mono ?_
  rintro e w3 ⟨rfl, ht⟩
  have O3 := Lib.hid (O2.out.to ht)
  clear ht
  go_wp2_with fail
  refine (push_isV (show pushE [3, 1] 3 = 5 by decide) (show pushL [3, 1] 3 = [3, 1] by decide) O3.out.st).mono ?_
  rintro e w4 ⟨rfl, ht⟩
  have O4 := Lib.hid (O3.out.to ht)
  clear ht
  go_wp2_with fail
  refine (turn_isV (show turnA [3, 1] = (0, [1, 3]) by decide) O4.out.st).mono ?_
  rintro e w5 ⟨rfl, ht⟩
  have O5 := Lib.hid (O4.out.to ht)
  clear ht
  go_wp2_with fail
  refine (pop_isV (show popA [1, 3] = (1, 0, [3]) by decide) O5.out.st).mono ?_
  rintro e w6 ⟨rfl, ht⟩
  have O6 := Lib.hid (O5.out.to ht)
  clear ht
  go_wp2
  go_ret
  exact ⟨rfl, O6.out.below⟩

theorem queInfo : (Try.prog.info? 38).map (fun i => (i.zero, i.size)) = some (some (.agg (queV [0, 0, 0, 0, 0, 0, 0, 0] 0 0 false)), 11) := by kernel_rfl
theorem queZero (w : World) : (zeroValue 38).run Try.prog w = .ok (.agg (queV [0, 0, 0, 0, 0, 0, 0, 0] 0 0 false)) w := (zero_of_info queInfo).1 w
def NoneRelV (W w1 : World) (s i : Value) (wr : World) : Prop := (s = .pointer none ∧ (i = .int .i64 0 ∨ i = .int .i64 1) ∨ (s = .pointer (some ⟨W.heap.size, 0, none⟩) ∧ i = .int .i64 2)) ∧ Below w1.heap.size w1 wr
set_option maxHeartbeats 4000000 in
theorem queueNone_walk (n : Int) (W : World) (_hn : -9223372036854775808 ≤ n ∧ n ≤ 9223372036854775807) : Calls Try.prog 4 #[.int .i64 n] W fun e w' => e = .returned (.bool true) ∧ Below W.heap.size W w' := by
  have hz := queZero
  obtain ⟨w1, hw1⟩ : ∃ w1, w1 = W.alloc (.cells (queV [0, 0, 0, 0, 0, 0, 0, 0] 0 0 false) 38) := ⟨_, rfl⟩
  have B1 : Hid (Below W.heap.size W w1) := Lib.hid (by rw [hw1]; exact (Below.refl _ _).alloc (Nat.le_refl _) _)
  have N0 : Hid (∀ w, NoQ w none) := Lib.hid (fun _ => Or.inl rfl)
  have N1 : Hid (∀ w, Below w1.heap.size w1 w → NoQ w (some ⟨W.heap.size, 0, none⟩)) := Lib.hid (fun w hb => by
    have h1 : NoQ w1 (some ⟨W.heap.size, 0, none⟩) := Or.inr ⟨_, rfl, by rw [hw1, cell_of_row _ _ _ _ _ _ (heap_alloc_new W _)]; exact queV_made _ _ _ _ rfl⟩
    exact h1.below hb)
  have HW := Lib.hid hw1
  clear hw1
  go_enter Try.func4, Try.ntmps4
  go_wp2_with fail
  rw [← HW.out]
  go_loopw [3, 5] (fun s i wr => NoneRelV W w1 s i wr) (fun _ i _ => (2 - (intOf i).toNat))
  case atStart => exact ⟨Or.inl ⟨rfl, Or.inl rfl⟩, Below.refl _ _⟩
  case round =>
    obtain ⟨hs, hb⟩ := hrel
    have B := Lib.hid hb
    clear hb
    rcases hs with ⟨rfl, rfl | rfl⟩ | ⟨rfl, rfl⟩
    · go_wp2_with (first
        | (go_at_call 14; refine (pop_noV _ _ (N0.out _)).mono ?_; rintro e w2 ⟨rfl, rfl⟩)
        | (go_at_call 11; refine (head_noV _ _ (N0.out _)).mono ?_; rintro e w2 ⟨rfl, rfl⟩)
        | (go_at_call 15; refine (push_noV _ n _ (N0.out _)).mono ?_; rintro e w2 ⟨rfl, rfl⟩)
        | (go_at_call 16; refine (drop_noV _ n _ (N0.out _)).mono ?_; rintro e w2 ⟨rfl, hb⟩; have B2 := Lib.hid (B.out.trans (hb.mono B.out.size)); clear hb)
        | (go_at_call 17; refine (turn_noV _ _ (N0.out _)).mono ?_; rintro e w3 ⟨rfl, rfl⟩)
        | (go_at_call 13; refine (all_noV _ _ (N0.out _)).mono ?_; rintro e w4 ⟨rfl, rfl⟩))
      go_roundw
      case rel => exact ⟨Or.inl ⟨rfl, Or.inr rfl⟩, B2.out⟩
      case measure => simp [intOf]
    · go_wp2_with (first
        | (go_at_call 14; refine (pop_noV _ _ (N1.out _ B.out)).mono ?_; rintro e w2 ⟨rfl, rfl⟩)
        | (go_at_call 11; refine (head_noV _ _ (N1.out _ B.out)).mono ?_; rintro e w2 ⟨rfl, rfl⟩)
        | (go_at_call 15; refine (push_noV _ n _ (N1.out _ B.out)).mono ?_; rintro e w2 ⟨rfl, rfl⟩)
        | (go_at_call 16; refine (drop_noV _ n _ (N1.out _ B.out)).mono ?_; rintro e w2 ⟨rfl, hb⟩; have B2 := Lib.hid (B.out.trans (hb.mono B.out.size)); clear hb)
        | (go_at_call 17; refine (turn_noV _ _ (N1.out _ B2.out)).mono ?_; rintro e w3 ⟨rfl, rfl⟩)
        | (go_at_call 13; refine (all_noV _ _ (N1.out _ B2.out)).mono ?_; rintro e w4 ⟨rfl, rfl⟩))
      go_roundw
      case rel => exact ⟨Or.inr ⟨rfl, rfl⟩, B2.out⟩
      case measure => simp [intOf]
    · go_wp2_with (go_at_call 8; refine (awake12 _).mono ?_; rintro e w2 ⟨rfl, hb⟩; have B2 := Lib.hid ((B1.out.trans (B.out.mono B1.out.size)).trans (hb.mono (Nat.le_trans B1.out.size B.out.size))); clear hb)
      go_ret
      exact ⟨rfl, B2.out⟩

/-- What a call makes of a row. -/
def stepV (L : List Int) (d n : Int) : List Int := if d = 1 then pushL L n else if d = 2 then (popA L).2.2 else if d = 3 then dropLV L n else if d = 4 then (turnA L).2 else L
theorem GoodV.step {L : List Int} (h : GoodV L) (d n : Int) : GoodV (stepV L d n) := by
  unfold stepV
  split
  · exact h.push n
  · split
    · cases L with
      | nil => exact h
      | cons x r => exact h.tail
    · split
      · exact h.drop n
      · split
        · exact h.turn
        · exact h
/-- A row's end behind its first number. -/
theorem ZRow.tail {w : World} {b o n c : Nat} {x : Int} {r : List Int} (h : ZRow w (.slice (some ⟨b, o, none⟩) (n + 1) c) (x :: r)) : (c = 1 → ZRow w (.slice (some ⟨b, o, none⟩) n 0) r) ∧ (c ≠ 1 → ZRow w (.slice (some ⟨b, o + 1, none⟩) n (c - 1)) r) ∧ w.cell? ⟨b, o, none⟩ = some (.int .i64 x) ∧ n + 1 ≤ c ∧ c ≤ maxLen := by
  rcases h with ⟨h, _⟩ | ⟨b', o', c', cs, h, h1, h2, h3, h4⟩
  · cases h
  · simp only [Value.slice.injEq, Option.some.injEq, Addr.mk.injEq, and_true, List.length_cons] at h
    obtain ⟨⟨rfl, rfl⟩, hn, rfl⟩ := h
    have hn : n = r.length := by omega
    rw [List.length_cons] at h1
    have g : ∀ i, i < r.length → cs[o + 1 + i]? = some (.int .i64 (r.getD i 0)) := fun i hi => by
      have := h4 (i + 1) (by simp; omega)
      rw [show o + 1 + i = o + (i + 1) by omega, this]; simp
    refine ⟨fun e => Or.inr ⟨b, o, 0, cs, by rw [hn], by omega, Nat.zero_le _, h3, fun i hi => by omega⟩, fun e => Or.inr ⟨b, o + 1, c - 1, cs, by rw [hn], by omega, by omega, h3, g⟩, ?_, by omega, h2⟩
    have := h4 0 (by simp)
    rw [cell_of_row w b _ _ _ _ h3]
    simpa using this
/-- Both sides: a queue, the document's row, and the call's own box. -/
structure BothV (w0 w : World) (b : Nat) (L K : List Int) (v : Value) (bx : Nat) (d n : Int) : Prop where
  q : QAt w b L
  row : ZRow w v K
  box : w.heap[bx]? = some (.cells #[.int .i64 d, .int .i64 n] 30 (0, 0))
  ne : bx ≠ b
  grown : w0.grownBy w (some b)
section
variable {w0 w : World} {b : Nat} {L K : List Int} {v : Value} {bx : Nat} {d n : Int} (h : BothV w0 w b L K v bx d n)
include h
theorem BothV.c0 : w.cell? ⟨bx, 0, none⟩ = some (.int .i64 d) := by rw [cell_of_row w bx _ _ _ _ h.box]; rfl
theorem BothV.c1 : w.cell? ⟨bx, 1, none⟩ = some (.int .i64 n) := by rw [cell_of_row w bx _ _ _ _ h.box]; rfl
theorem BothV.row_ {w' : World} {v' : Value} {K' : List Int} (hb : Below w.heap.size w w') (hr : ZRow w' v' K') : BothV w0 w' b L K' v' bx d n :=
  ⟨h.q.below hb, hr, below_block hb h.box, h.ne, grownBy_trans h.grown (grownBy_of_below hb _)⟩
theorem BothV.to {w' : World} {L' : List Int} (t : ToV w w' b L') : BothV w0 w' b L' K v bx d n :=
  ⟨t.st, h.row.to h.q t, (t.grown.block bx (lt_of_block h.box) (fun e => h.ne (Option.some.inj e))).trans h.box, h.ne, grownBy_trans h.grown t.grown⟩
end
theorem BothV.start {w : World} {b : Nat} {L : List Int} {v : Value} (q : QAt w b L) (r : ZRow w v L) (d n : Int) : BothV w (w.alloc (.cells #[.int .i64 d, .int .i64 n] 30)) b L L v w.heap.size d n :=
  have hb := (Below.refl w.heap.size w).alloc (Nat.le_refl _) (.cells #[.int .i64 d, .int .i64 n] 30)
  ⟨q.below hb, r.below hb, heap_alloc_new w _, Nat.ne_of_gt q.lt, grownBy_of_below hb _⟩
def PlayPostV (w : World) (b : Nat) (L : List Int) (e : Ending) (w' : World) : Prop := ∃ v, e = .returned (.tuple #[v, .bool true]) ∧ ZRow w' v L ∧ ToV w w' b L
theorem BothV.done {w0 w : World} {b : Nat} {L : List Int} {v : Value} {bx : Nat} {d n : Int} (h : BothV w0 w b L L v bx d n) : ZRow w v L ∧ ToV w0 w b L := ⟨h.row, h.q, h.grown⟩
set_option maxHeartbeats 4000000 in
theorem play_okV (b : Nat) (L : List Int) (v : Value) (d n : Int) (w : World) (q : QAt w b L) (r : ZRow w v L) : Calls Try.prog 10 #[.pointer (some ⟨b, 0, none⟩), v, .agg #[.int .i64 d, .int .i64 n]] w (PlayPostV w b (stepV L d n)) := by
  have hl := q.good.length
  have H1 := Lib.hid (BothV.start q r d n)
  obtain ⟨w1, hw1⟩ : ∃ w1, w1 = w.alloc (.cells #[.int .i64 d, .int .i64 n] 30) := ⟨_, rfl⟩
  obtain ⟨bx, hbx⟩ : ∃ bx, bx = w.heap.size := ⟨_, rfl⟩
  have cd := H1.out.c0
  have cx := H1.out.c1
  obtain ⟨a, c, rfl, _⟩ := r.read
  clear q r
  by_cases d1 : d = 1
  · subst d1
    have ST : Hid (stepV L 1 n = pushL L n) := Lib.hid (by simp [stepV])
    rw [ST.out]
    have RP := Lib.hid (rpushV L _ n _ H1.out.row (by omega))
    have PQ : Hid (∀ V, QAt V b L → Calls Try.prog 15 #[.pointer (some ⟨b, 0, none⟩), .int .i64 n] V fun e w' => e = .returned (.int .i64 (pushE L n)) ∧ ToV V w' b (pushL L n)) := Lib.hid (fun V h => push_okV b L n V h)
    generalize pushE L n = er at RP PQ
    generalize pushL L n = K at RP PQ ⊢
    go_enter Try.func10, Try.ntmps10
    go_wp2_with fail
    rw [← hw1, ← hbx] at H1
    rw [← hw1] at RP
    rw [← hw1, ← hbx]
    clear cd cx hw1 hbx
    refine RP.out.mono ?_
    rintro e w2 ⟨v2, rfl, hr, hb⟩
    have H2 := Lib.hid (H1.out.row_ hb hr)
    have cx := H2.out.c1
    clear hr hb
    go_wp2_with fail
    refine (PQ.out _ H2.out.q).mono ?_
    rintro e w3 ⟨rfl, ht⟩
    have H3 := Lib.hid (H2.out.to ht)
    clear ht
    go_wp2
    go_ret2
    exact ⟨_, rfl, H3.out.done⟩
  · by_cases d2 : d = 2
    · subst d2
      cases L with
      | nil =>
        go_enter Try.func10, Try.ntmps10
        go_wp2_with fail
        rw [← hw1, ← hbx] at H1
        rw [← hw1]
        clear cd cx hw1 hbx
        refine (pop_isV (show popA [] = (0, 4, []) from rfl) H1.out.q).mono ?_
        rintro e w2 ⟨rfl, ht⟩
        have H2 := Lib.hid (H1.out.to ht)
        clear ht
        go_wp2
        go_ret2
        exact ⟨_, rfl, H2.out.done⟩
      | cons x l =>
        obtain ⟨m, hm⟩ : ∃ m, m = l.length := ⟨_, rfl⟩
        have hlen : (x :: l).length = m + 1 := by rw [hm]; rfl
        rw [hlen] at H1 hl ⊢
        obtain ⟨b2, o2, rfl⟩ : ∃ b2 o2, a = some ⟨b2, o2, none⟩ := by
          rcases H1.out.row with ⟨h, _⟩ | ⟨b2, o2, _, _, h, _⟩
          · cases h
          · cases h; exact ⟨b2, o2, rfl⟩
        clear hm hlen
        go_enter Try.func10, Try.ntmps10
        go_wp2_with fail
        rw [← hw1, ← hbx] at H1
        rw [← hw1]
        clear cd cx hw1 hbx
        refine (pop_isV (show popA (x :: l) = (x, 0, l) from rfl) H1.out.q).mono ?_
        rintro e w2 ⟨rfl, ht⟩
        have H2 := Lib.hid (H1.out.to ht)
        obtain ⟨t1, t2, cz, hc1, hc2⟩ := H2.out.row.tail
        have hmx : c ≤ 9223372036854775807 := by unfold maxLen at hc2; omega
        have T1 := Lib.hid t1
        have T2 := Lib.hid t2
        clear ht t1 t2
        by_cases hcc : c = 1
        · have H3 := Lib.hid (H2.out.row_ (Below.refl _ _) (T1.out hcc))
          go_wp2_with fail
          go_quiet (fail)
          have H4 := Lib.hid (H3.out.row_ (below_drawsV w2 nq) (H3.out.row.below (below_drawsV w2 nq)))
          go_wp2
          go_ret2
          exact ⟨_, rfl, H4.out.done⟩
        · have H3 := Lib.hid (H2.out.row_ (Below.refl _ _) (T2.out hcc))
          go_wp2_with fail
          go_quiet (fail)
          have H4 := Lib.hid (H3.out.row_ (below_drawsV w2 nq) (H3.out.row.below (below_drawsV w2 nq)))
          go_wp2
          go_ret2
          exact ⟨_, rfl, H4.out.done⟩
    · by_cases d3 : d = 3
      · subst d3
        have ST : Hid (stepV L 3 n = dropLV L n) := Lib.hid (by simp [stepV])
        rw [ST.out]
        have RP := Lib.hid (rdropV L _ n _ H1.out.row (by omega))
        have PQ : Hid (∀ V, QAt V b L → Calls Try.prog 16 #[.pointer (some ⟨b, 0, none⟩), .int .i64 n] V fun e w' => e = .returned (.int .i64 (dropEV L n)) ∧ ToV V w' b (dropLV L n)) := Lib.hid (fun V h => drop_okV b L n V h)
        generalize dropEV L n = er at RP PQ
        generalize dropLV L n = K at RP PQ ⊢
        go_enter Try.func10, Try.ntmps10
        go_wp2_with fail
        rw [← hw1, ← hbx] at H1
        rw [← hw1] at RP
        rw [← hw1, ← hbx]
        clear cd cx hw1 hbx
        refine RP.out.mono ?_
        rintro e w2 ⟨v2, rfl, hr, hb⟩
        have H2 := Lib.hid (H1.out.row_ hb hr)
        have cx := H2.out.c1
        clear hr hb
        go_wp2_with fail
        refine (PQ.out _ H2.out.q).mono ?_
        rintro e w3 ⟨rfl, ht⟩
        have H3 := Lib.hid (H2.out.to ht)
        clear ht
        go_wp2
        go_ret2
        exact ⟨_, rfl, H3.out.done⟩
      · by_cases d4 : d = 4
        · subst d4
          have ST : Hid (stepV L 4 n = (turnA L).2) := Lib.hid (by simp [stepV])
          rw [ST.out]
          have RP := Lib.hid (rturnV L _ _ H1.out.row (by omega))
          have PQ : Hid (∀ V, QAt V b L → Calls Try.prog 17 #[.pointer (some ⟨b, 0, none⟩)] V fun e w' => e = .returned (.int .i64 ((turnA L).1)) ∧ ToV V w' b ((turnA L).2)) := Lib.hid (fun V h => turn_okV b L V h)
          generalize (turnA L).1 = er at RP PQ
          generalize (turnA L).2 = K at RP PQ ⊢
          go_enter Try.func10, Try.ntmps10
          go_wp2_with fail
          rw [← hw1, ← hbx] at H1
          rw [← hw1] at RP
          rw [← hw1, ← hbx]
          clear cd cx hw1 hbx
          refine RP.out.mono ?_
          rintro e w2 ⟨v2, rfl, hr, hb⟩
          have H2 := Lib.hid (H1.out.row_ hb hr)
          have cx := H2.out.c1
          clear hr hb
          go_wp2_with fail
          refine (PQ.out _ H2.out.q).mono ?_
          rintro e w3 ⟨rfl, ht⟩
          have H3 := Lib.hid (H2.out.to ht)
          clear ht
          go_wp2
          go_ret2
          exact ⟨_, rfl, H3.out.done⟩
        · have ST : Hid (stepV L d n = L) := Lib.hid (by simp [stepV, d1, d2, d3, d4])
          rw [ST.out]
          have e1 : (d == 1) = false := by simp [d1]
          have e2 : (d == 2) = false := by simp [d2]
          have e3 : (d == 3) = false := by simp [d3]
          have e4 : (d == 4) = false := by simp [d4]
          go_enter Try.func10, Try.ntmps10
          go_wp2_with fail
          go_ret2
          rw [← hw1]
          exact ⟨_, rfl, by rw [← hw1] at H1; exact H1.out.done⟩
end Go.Proofs.Ytmkoflmhopefhaa
