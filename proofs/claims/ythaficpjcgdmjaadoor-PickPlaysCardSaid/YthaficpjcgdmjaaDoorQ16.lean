/- The walk of PickPlays. Conditions: the library's table reads as its initialiser lays it; the slice lies as it says. Written by gen/gen_q16.py. -/
import Derived.Test.YthaficpjcgdmjaaDoorQ13
import Derived.Test.YthaficpjcgdmjaaDoorQ14
namespace Go.Proofs.YthaficpjcgdmjaaDoor
open Go.RowKit
set_option maxRecDepth 100000

/-- What a set does leaves a row of numbers as it was: a set's block holds none. -/
theorem IRow.turn {w w' : World} {p : Nat} {v : Value} {K L L' : List Nat} (h : IRow w v K) (hs : SetAt w p L) (ht : Turn w w' p L') : IRow w' v K := by
  rcases h with h | ⟨b, o, c, rfl, h1, h2, h3, h4⟩
  · exact Or.inl h
  · refine Or.inr ⟨b, o, c, rfl, h1, h2, Nat.lt_of_lt_of_le h3 ht.grown.size, fun i hi => ?_⟩
    refine ht.grown.cell (h4 i hi) (fun e => ?_)
    have e : b = p := Option.some.inj e
    subst e
    have := h4 i hi
    rw [cell_of_row w b _ _ _ _ hs.box] at this
    by_cases ho : o + i < 16
    · rw [setV_get L true _ ho] at this; cases this
    · by_cases ho2 : o + i = 16
      · rw [ho2, setV_made] at this; cases this
      · rw [Array.getElem?_eq_none (by simp [setV, bitsV_length]; omega)] at this; cases this
/-- What a round keeps: the set, the document's row, and the call's box. -/
structure PlayQ (W w : World) (p : Nat) (L : List Nat) (v : Value) (bx : Nat) (d x : Int) : Prop where
  set : OwnSet W w p L
  row : IRow w v L
  box : w.heap[bx]? = some (.cells #[.int .i64 d, .int .i64 x] 32 (0, 0))
  ne : p ≠ bx
theorem PlayQ.c0 {W w : World} {p bx : Nat} {L : List Nat} {v : Value} {d x : Int} (h : PlayQ W w p L v bx d x) : w.cell? ⟨bx, 0, none⟩ = some (.int .i64 d) := by rw [cell_of_row w bx _ _ _ _ h.box]; rfl
theorem PlayQ.c1 {W w : World} {p bx : Nat} {L : List Nat} {v : Value} {d x : Int} (h : PlayQ W w p L v bx d x) : w.cell? ⟨bx, 1, none⟩ = some (.int .i64 x) := by rw [cell_of_row w bx _ _ _ _ h.box]; rfl
theorem PlayQ.step {W w w' : World} {p bx : Nat} {L : List Nat} {v : Value} {d x : Int} (h : PlayQ W w p L v bx d x) (hb : Below w.heap.size w w') : PlayQ W w' p L v bx d x := ⟨h.set.step hb, h.row.below hb, below_block hb h.box, h.ne⟩
theorem PlayQ.start {W w : World} {p : Nat} {L : List Nat} {v : Value} (h : OwnSet W w p L) (hr : IRow w v L) (d x : Int) : PlayQ W (w.alloc (.cells #[.int .i64 d, .int .i64 x] 32)) p L v w.heap.size d x :=
  have hb := (Below.refl w.heap.size w).alloc (Nat.le_refl _) (.cells #[.int .i64 d, .int .i64 x] 32)
  ⟨h.step hb, hr.below hb, heap_alloc_new w _, Nat.ne_of_lt h.st.lt⟩
/-- Between the document's call and the set's: the row has become K's already. -/
structure HalfQ (W w : World) (p : Nat) (L K : List Nat) (v : Value) (bx : Nat) (d x : Int) : Prop where
  set : OwnSet W w p L
  row : IRow w v K
  box : w.heap[bx]? = some (.cells #[.int .i64 d, .int .i64 x] 32 (0, 0))
  ne : p ≠ bx
theorem HalfQ.c1 {W w : World} {p bx : Nat} {L K : List Nat} {v : Value} {d x : Int} (h : HalfQ W w p L K v bx d x) : w.cell? ⟨bx, 1, none⟩ = some (.int .i64 x) := by rw [cell_of_row w bx _ _ _ _ h.box]; rfl
theorem PlayQ.half {W w w' : World} {p bx : Nat} {L K : List Nat} {v v' : Value} {d x : Int} (h : PlayQ W w p L v bx d x) (hb : Below w.heap.size w w') (hr : IRow w' v' K) : HalfQ W w' p L K v' bx d x := ⟨h.set.step hb, hr, below_block hb h.box, h.ne⟩
theorem HalfQ.turn {W w w' : World} {p bx : Nat} {L K : List Nat} {v : Value} {d x : Int} (h : HalfQ W w p L K v bx d x) (ht : Turn w w' p K) : PlayQ W w' p K v bx d x :=
  ⟨h.set.turn ht, h.row.turn h.set.st ht, (ht.grown.block bx (lt_of_block h.box) (fun e => h.ne (Option.some.inj e).symm)).trans h.box, h.ne⟩
/-- A row's end behind its first number. -/
theorem IRow.tail {w : World} {b o n c x : Nat} {r : List Nat} (h : IRow w (.slice (some ⟨b, o, none⟩) (n + 1) c) (x :: r)) : (c = 1 → IRow w (.slice (some ⟨b, o, none⟩) n 0) r) ∧ (c ≠ 1 → IRow w (.slice (some ⟨b, o + 1, none⟩) n (c - 1)) r) ∧ w.cell? ⟨b, o, none⟩ = some (.int .i64 (x : Int)) ∧ n + 1 ≤ c ∧ c ≤ maxLen := by
  rcases h with ⟨h, _⟩ | ⟨b', o', c', h, h1, h2, h3, h4⟩
  · cases h
  · simp only [Value.slice.injEq, Option.some.injEq, Addr.mk.injEq, and_true, List.length_cons] at h
    obtain ⟨⟨rfl, rfl⟩, hn, rfl⟩ := h
    have hn : n = r.length := by omega
    rw [List.length_cons] at h1
    have g : ∀ i, i < r.length → w.cell? ⟨b, o + 1 + i, none⟩ = some (.int .i64 ((r.getD i 0 : Nat) : Int)) := fun i hi => by
      have := h4 (i + 1) (by simp; omega)
      rw [show o + 1 + i = o + (i + 1) by omega, this]; simp
    refine ⟨fun e => Or.inr ⟨b, o, 0, by rw [hn], by omega, Nat.zero_le _, h3, fun i hi => by omega⟩, fun e => Or.inr ⟨b, o + 1, c - 1, by rw [hn], by omega, by omega, h3, g⟩, ?_, by omega, h2⟩
    have := h4 0 (by simp)
    simpa using this

theorem plays_far (f m : Int) (q c : Nat) (a : Option Addr) (W : World) (hq : 200 < q) (hT : LaidQ W) : Calls Tryd.prog 3 #[.int .i64 f, .int .i64 m, .slice a q c] W fun e w' => e = .returned (.bool true) ∧ Below W.heap.size W w' := by
  have HT := Lib.hid hT
  clear hT
  go_enter Tryd.func3, Tryd.ntmps3
  go_wp2_with (go_at_call 8; refine (awake8 _ HT.out).mono ?_; rintro e w2 ⟨rfl, hb⟩; have B := Lib.hid hb; clear hb)
  go_ret
  exact ⟨rfl, B.out⟩
theorem plays_no (f m : Int) (q c : Nat) (a : Option Addr) (W : World) (hq : q ≤ 200) (hf : -9223372036854775808 ≤ f ∧ f ≤ 9223372036854775807) (hm : -9223372036854775808 ≤ m ∧ m ≤ 9223372036854775807) (h : newB f m = false) (hT : LaidQ W) : Calls Tryd.prog 3 #[.int .i64 f, .int .i64 m, .slice a q c] W fun e w' => e = .returned (.bool true) ∧ Below W.heap.size W w' := by
  have HT := Lib.hid hT
  have C1 := Lib.hid (new_bad f m W hf hm h)
  have C2 := Lib.hid (rnew_no f m W hf hm h)
  have hd : decide (200 < q) = false := decide_eq_false (by omega)
  clear hT h hf hm
  go_enter Tryd.func3, Tryd.ntmps3
  go_wp2_with (first
    | (go_at_call 9; refine C1.out.mono ?_; rintro e w' ⟨rfl, rfl⟩)
    | (go_at_call 10; refine C2.out.mono ?_; rintro e w' ⟨rfl, rfl⟩)
    | (go_at_call 8; refine (awake8 _ HT.out).mono ?_; rintro e w2 ⟨rfl, hb⟩; have B := Lib.hid hb; clear hb))
  go_ret
  exact ⟨rfl, B.out⟩

def PlaysQ (W : World) (p q : Nat) (l i : Value) (wr : World) : Prop := ∃ (k : Nat) (L : List Nat), i = .int .i64 (k : Int) ∧ k ≤ q ∧ OwnSet W wr p L ∧ IRow wr l L
/-- What the two sides tell of a number, as one. -/
theorem quiet_len {p n m : Nat} {L : List Nat} {w : World} (h : SetAt w p L) (hn : L.length = n) : Calls Tryd.prog 16 #[.pointer (some ⟨p, 0, none⟩)] (w.drewN m) fun e w' => e = .returned (.int .i64 (n : Int)) ∧ ∃ k, w' = w.drewN k :=
  Calls.quiet_of_same ((len_is (w := w.drewN m) hn ⟨h.good, h.box⟩).mono fun _ _ h => ⟨h.1, h.2.symm⟩)
theorem quiet_has {p m : Nat} {L : List Nat} {x : Int} {y : Bool} {w : World} (h : SetAt w p L) (hy : hasB' L x = y) : Calls Tryd.prog 17 #[.pointer (some ⟨p, 0, none⟩), .int .i64 x] (w.drewN m) fun e w' => e = .returned (.bool y) ∧ ∃ k, w' = w.drewN k :=
  Calls.quiet_of (by have := has_any p L x (w.drewN m) ⟨h.good, h.box⟩; rwa [hy] at this)
theorem quiet_rhas {m : Nat} {L : List Nat} {v : Value} {x : Int} {y : Bool} {w : World} (h : IRow w v L) (hy : inL L x = y) (hl : L.length ≤ 2000) : Calls Tryd.prog 18 #[v, .int .i64 x] (w.drewN m) fun e w' => e = .returned (.bool y) ∧ ∃ k, w' = w.drewN k :=
  Calls.quiet_of_same (by
    have := rhas_ok L v x (w.drewN m) (h.below (below_drewN (Below.refl _ _) m)) hl
    rw [hy] at this
    exact this.mono fun _ _ h => ⟨h.1, h.2.symm⟩)
theorem both_has (L : List Nat) (x : Int) (h : Good L) : ∃ y : Bool, hasB' L x = y ∧ inL L x = y := ⟨_, rfl, (inL_has L x h).symm⟩
set_option maxHeartbeats 8000000 in
theorem plays_in (f m : Nat) (S : List (Int × Int)) (a : Option Addr) (c : Nat) (W : World) (hf : f < 1024) (hm : f + m ≤ 1024) (hl : S.length ≤ 200) (hT : LaidQ W) (hc : S = [] ∨ ∃ b o, a = some ⟨b, o, none⟩ ∧ b < W.heap.size ∧ ∀ i, i < S.length → W.cell? ⟨b, o + i * 2, none⟩ = some (.int .i64 (S.getD i default).1) ∧ W.cell? ⟨b, o + i * 2 + 1, none⟩ = some (.int .i64 (S.getD i default).2)) :
    Calls Tryd.prog 3 #[.int .i64 f, .int .i64 m, .slice a S.length c] W fun e w' => e = .returned (.bool true) ∧ Below W.heap.size W w' := by
  have HC := Lib.hid hc
  have HT := Lib.hid hT
  obtain ⟨q, hq⟩ : ∃ q, q = S.length := ⟨_, rfl⟩
  rw [← hq] at hl ⊢
  have HQ := Lib.hid hq
  have hd : decide (200 < q) = false := decide_eq_false (by omega)
  have C1 := Lib.hid (new_set f m W hf hm)
  have C2 := Lib.hid (fun w => rnew_yes f m w hf hm)
  generalize span f m = L0 at C1 C2
  clear hc hT hq hf hm
  go_enter Tryd.func3, Tryd.ntmps3
  go_wp2_with fail
  refine C1.out.mono ?_
  rintro e w1 hp
  obtain ⟨p, rfl, ho⟩ := OwnSet.new HT.out hp
  have O1 := Lib.hid ho
  clear hp ho
  go_wp2_with fail
  refine (C2.out w1).mono ?_
  rintro e w2 ⟨v, rfl, hr, hb⟩
  have R2 := Lib.hid hr
  have O2 := Lib.hid (O1.out.step hb)
  clear hr hb
  go_wp2_with fail
  go_loopw [9, 11] (fun l i wr => PlaysQ W p q l i wr) (fun _ i _ => q - (intOf i).toNat)
  case atStart => exact ⟨0, L0, rfl, Nat.zero_le _, O2.out, R2.out⟩
  case round =>
    obtain ⟨k, L, rfl, hk, ho, hr⟩ := hrel
    have O := Lib.hid ho
    have R := Lib.hid hr
    by_cases hlt : k < q
    · obtain ⟨b, o, rfl, hbW, hcell⟩ := HC.out.resolve_left (by intro e; have := HQ.out; rw [e] at this; simp at this; omega)
      obtain ⟨x0, x1⟩ := hcell k (by have := HQ.out; omega)
      have c0 := (O.out.below.cell (p := ⟨b, o + k * 2, none⟩) hbW).trans x0
      have c1 := (O.out.below.cell (p := ⟨b, o + k * 2 + 1, none⟩) hbW).trans x1
      generalize S.getD k default = op at c0 c1
      obtain ⟨d, x⟩ := op
      simp only at c0 c1
      clear hcell x0 x1
      obtain ⟨a1, cc, rfl, _⟩ := hr.open_
      obtain ⟨n, hn⟩ : ∃ n, L.length = n := ⟨_, rfl⟩
      rw [hn] at R ⊢
      have NN := Lib.hid hn
      have P := Lib.hid (PlayQ.start O.out R.out d x)
      have hn1024 : n ≤ 1024 := by rw [← hn]; exact O.out.st.good.length
      clear ho hr hn
      by_cases d1 : d = 1
      · subst d1
        obtain ⟨w3, hw3⟩ : ∃ w3, w3 = wr.alloc (.cells #[.int .i64 1, .int .i64 x] 32) := ⟨_, rfl⟩
        obtain ⟨bx, hbx⟩ : ∃ bx, bx = wr.heap.size := ⟨_, rfl⟩
        cases L with
        | nil =>
          obtain rfl : n = 0 := NN.out.symm
          go_wp2_with fail
          rw [← hw3, ← hbx] at P ⊢
          clear hw3 hbx
          refine (take_is (show takeA [] = (0, 4, []) from rfl) P.out.set.st P.out.set.table).mono ?_
          rintro e w4 ⟨rfl, ht⟩
          have P2 := Lib.hid ((P.out.half (Below.refl _ _) P.out.row).turn ht)
          have c0 := P2.out.c0
          clear ht c0
          obtain ⟨y, hy1, hy2⟩ := both_has (([] : List Nat)) x P2.out.set.st.good
          have Y1 := Lib.hid hy1
          have Y2 := Lib.hid hy2
          have hle := P2.out.set.st.good.length
          have cx := P2.out.c1
          have ZN : Hid ((([] : List Nat)).length = 0) := Lib.hid (by first | rfl | assumption | exact NN.out)
          clear hy1 hy2
          go_wp2_with fail
          go_quiet ((first
            | (go_at_call 16; exact quiet_len P2.out.set.st ZN.out)
            | (go_at_call 17; exact quiet_has P2.out.set.st Y1.out)
            | (go_at_call 18; exact quiet_rhas P2.out.row Y2.out (by omega))))
          cases y
          all_goals
            go_wp2
            go_roundw
            case rel => exact ⟨k + 1, ([] : List Nat), by go_num, by omega, P2.out.set.step (below_drewN (Below.refl _ _) _), P2.out.row.below (below_drewN (Below.refl _ _) _)⟩
            case measure => simp [intOf]; omega
        | cons z r =>
          have NR : Hid (r.length = n - 1) := Lib.hid (by have := NN.out; simp at this; omega)
          obtain ⟨n, rfl⟩ : ∃ n', n = n' + 1 := ⟨n - 1, by have := NN.out; simp at this; omega⟩
          obtain ⟨b2, o2, rfl⟩ : ∃ b2 o2, a1 = some ⟨b2, o2, none⟩ := by
            rcases R.out with ⟨h, _⟩ | ⟨b2, o2, _, h, _⟩
            · cases h
            · cases h; exact ⟨b2, o2, rfl⟩
          obtain ⟨t1, t2, cz, hc1, hc2⟩ := P.out.row.tail
          have hmx : cc ≤ 9223372036854775807 := by unfold maxLen at hc2; omega
          have T1 := Lib.hid t1
          have T2 := Lib.hid t2
          have CZ := Lib.hid cz
          clear t1 t2 cz
          go_wp2_with fail
          rw [← hw3, ← hbx] at P ⊢
          rw [← hw3] at T1 T2 CZ
          clear hw3 hbx
          refine (take_is (show takeA (z :: r) = ((z : Int), 0, r) from rfl) P.out.set.st P.out.set.table).mono ?_
          rintro e w4 ⟨rfl, ht⟩
          have RW := Lib.hid (P.out.row.turn P.out.set.st ht)
          have cz := RW.out.tail.2.2.1
          have NN : Hid (r.length = n) := Lib.hid (by have := NR.out; omega)
          by_cases hcc : cc = 1
          · have H2 := Lib.hid ((P.out.half (Below.refl _ _) (T1.out hcc)))
            have P2 := Lib.hid (H2.out.turn ht)
            clear ht
            generalize (z : Int) = zz at *
            obtain ⟨y, hy1, hy2⟩ := both_has (r) x P2.out.set.st.good
            have Y1 := Lib.hid hy1
            have Y2 := Lib.hid hy2
            have hle := P2.out.set.st.good.length
            have cx := P2.out.c1
            have ZN : Hid ((r).length = n) := Lib.hid (by first | rfl | assumption | exact NN.out)
            clear hy1 hy2
            go_wp2_with fail
            go_quiet ((first
              | (go_at_call 16; exact quiet_len P2.out.set.st ZN.out)
              | (go_at_call 17; exact quiet_has P2.out.set.st Y1.out)
              | (go_at_call 18; exact quiet_rhas P2.out.row Y2.out (by omega))))
            cases y
            all_goals
              go_wp2
              go_roundw
              case rel => exact ⟨k + 1, r, by go_num, by omega, P2.out.set.step (below_drewN (Below.refl _ _) _), P2.out.row.below (below_drewN (Below.refl _ _) _)⟩
              case measure => simp [intOf]; omega
          · have H2 := Lib.hid ((P.out.half (Below.refl _ _) (T2.out hcc)))
            have P2 := Lib.hid (H2.out.turn ht)
            clear ht
            generalize (z : Int) = zz at *
            obtain ⟨y, hy1, hy2⟩ := both_has (r) x P2.out.set.st.good
            have Y1 := Lib.hid hy1
            have Y2 := Lib.hid hy2
            have hle := P2.out.set.st.good.length
            have cx := P2.out.c1
            have ZN : Hid ((r).length = n) := Lib.hid (by first | rfl | assumption | exact NN.out)
            clear hy1 hy2
            go_wp2_with fail
            go_quiet ((first
              | (go_at_call 16; exact quiet_len P2.out.set.st ZN.out)
              | (go_at_call 17; exact quiet_has P2.out.set.st Y1.out)
              | (go_at_call 18; exact quiet_rhas P2.out.row Y2.out (by omega))))
            cases y
            all_goals
              go_wp2
              go_roundw
              case rel => exact ⟨k + 1, r, by go_num, by omega, P2.out.set.step (below_drewN (Below.refl _ _) _), P2.out.row.below (below_drewN (Below.refl _ _) _)⟩
              case measure => simp [intOf]; omega
      · by_cases d2 : d = 2
        · subst d2
          obtain ⟨w3, hw3⟩ : ∃ w3, w3 = wr.alloc (.cells #[.int .i64 2, .int .i64 x] 32) := ⟨_, rfl⟩
          obtain ⟨bx, hbx⟩ : ∃ bx, bx = wr.heap.size := ⟨_, rfl⟩
          rw [← hw3, ← hbx] at P
          have cx := P.out.c1
          have cd := P.out.c0
          rw [hbx] at cx cd
          rw [hw3] at cx cd
          go_wp2_with fail
          rw [← hw3, ← hbx]
          clear cx cd
          clear hw3 hbx
          refine (rput_ok L _ x _ P.out.row (by have := NN.out; omega)).mono ?_
          rintro e w4 ⟨v4, rfl, hr, hb⟩
          have H4 := Lib.hid (P.out.half hb hr)
          have cx := H4.out.c1
          have PE := Lib.hid (put_is (n := x) rfl rfl H4.out.set.st)
          obtain ⟨K, hK⟩ : ∃ K, putL L x = K := ⟨_, rfl⟩
          obtain ⟨g, hg⟩ : ∃ g, putE L x = g := ⟨_, rfl⟩
          rw [hK] at H4 PE hr
          rw [hg] at PE
          rw [hg]
          obtain ⟨a4, c4, rfl, _⟩ := hr.open_
          obtain ⟨n4, hn4⟩ : ∃ n4, K.length = n4 := ⟨_, rfl⟩
          rw [hn4] at H4 ⊢
          have NN := Lib.hid hn4
          clear hr hb hK hg hn4
          go_wp2_with fail
          refine PE.out.mono ?_
          rintro e w5 ⟨rfl, ht⟩
          have P2 := Lib.hid (H4.out.turn ht)
          clear ht cx
          obtain ⟨y, hy1, hy2⟩ := both_has (K) x P2.out.set.st.good
          have Y1 := Lib.hid hy1
          have Y2 := Lib.hid hy2
          have hle := P2.out.set.st.good.length
          have cx := P2.out.c1
          have ZN : Hid ((K).length = n4) := Lib.hid (by first | rfl | assumption | exact NN.out)
          clear hy1 hy2
          go_wp2_with fail
          go_quiet ((first
            | (go_at_call 16; exact quiet_len P2.out.set.st ZN.out)
            | (go_at_call 17; exact quiet_has P2.out.set.st Y1.out)
            | (go_at_call 18; exact quiet_rhas P2.out.row Y2.out (by omega))))
          cases y
          all_goals
            go_wp2
            go_roundw
            case rel => exact ⟨k + 1, K, by go_num, by omega, P2.out.set.step (below_drewN (Below.refl _ _) _), P2.out.row.below (below_drewN (Below.refl _ _) _)⟩
            case measure => simp [intOf]; omega
        · by_cases d3 : d = 3
          · subst d3
            obtain ⟨w3, hw3⟩ : ∃ w3, w3 = wr.alloc (.cells #[.int .i64 3, .int .i64 x] 32) := ⟨_, rfl⟩
            obtain ⟨bx, hbx⟩ : ∃ bx, bx = wr.heap.size := ⟨_, rfl⟩
            rw [← hw3, ← hbx] at P
            have cx := P.out.c1
            have cd := P.out.c0
            rw [hbx] at cx cd
            rw [hw3] at cx cd
            go_wp2_with fail
            rw [← hw3, ← hbx]
            clear cx cd
            clear hw3 hbx
            refine (rdrop_ok L _ x _ P.out.row (by have := NN.out; omega)).mono ?_
            rintro e w4 ⟨v4, rfl, hr, hb⟩
            have H4 := Lib.hid (P.out.half hb hr)
            have cx := H4.out.c1
            have PE := Lib.hid (drop_is (n := x) rfl rfl H4.out.set.st)
            obtain ⟨K, hK⟩ : ∃ K, dropL L x = K := ⟨_, rfl⟩
            obtain ⟨g, hg⟩ : ∃ g, dropE L x = g := ⟨_, rfl⟩
            rw [hK] at H4 PE hr
            rw [hg] at PE
            rw [hg]
            obtain ⟨a4, c4, rfl, _⟩ := hr.open_
            obtain ⟨n4, hn4⟩ : ∃ n4, K.length = n4 := ⟨_, rfl⟩
            rw [hn4] at H4 ⊢
            have NN := Lib.hid hn4
            clear hr hb hK hg hn4
            go_wp2_with fail
            refine PE.out.mono ?_
            rintro e w5 ⟨rfl, ht⟩
            have P2 := Lib.hid (H4.out.turn ht)
            clear ht cx
            obtain ⟨y, hy1, hy2⟩ := both_has (K) x P2.out.set.st.good
            have Y1 := Lib.hid hy1
            have Y2 := Lib.hid hy2
            have hle := P2.out.set.st.good.length
            have cx := P2.out.c1
            have ZN : Hid ((K).length = n4) := Lib.hid (by first | rfl | assumption | exact NN.out)
            clear hy1 hy2
            go_wp2_with fail
            go_quiet ((first
              | (go_at_call 16; exact quiet_len P2.out.set.st ZN.out)
              | (go_at_call 17; exact quiet_has P2.out.set.st Y1.out)
              | (go_at_call 18; exact quiet_rhas P2.out.row Y2.out (by omega))))
            cases y
            all_goals
              go_wp2
              go_roundw
              case rel => exact ⟨k + 1, K, by go_num, by omega, P2.out.set.step (below_drewN (Below.refl _ _) _), P2.out.row.below (below_drewN (Below.refl _ _) _)⟩
              case measure => simp [intOf]; omega
          · have e1 : (d == 1) = false := by simp [d1]
            have e2 : (d == 2) = false := by simp [d2]
            have e3 : (d == 3) = false := by simp [d3]
            have P2 := P
            clear d1 d2 d3 P
            obtain ⟨y, hy1, hy2⟩ := both_has (L) x P2.out.set.st.good
            have Y1 := Lib.hid hy1
            have Y2 := Lib.hid hy2
            have hle := P2.out.set.st.good.length
            have cx := P2.out.c1
            have ZN : Hid ((L).length = n) := Lib.hid (by first | rfl | assumption | exact NN.out)
            clear hy1 hy2
            go_wp2_with fail
            go_quiet ((first
              | (go_at_call 16; exact quiet_len P2.out.set.st ZN.out)
              | (go_at_call 17; exact quiet_has P2.out.set.st Y1.out)
              | (go_at_call 18; exact quiet_rhas P2.out.row Y2.out (by omega))))
            cases y
            all_goals
              go_wp2
              go_roundw
              case rel => exact ⟨k + 1, L, by go_num, by omega, P2.out.set.step (below_drewN (Below.refl _ _) _), P2.out.row.below (below_drewN (Below.refl _ _) _)⟩
              case measure => simp [intOf]; omega
    · obtain rfl : k = q := by omega
      clear ho hr
      go_wp2_with fail
      refine (all_ok p L _ O.out.st O.out.table).mono ?_
      rintro e w3 ⟨v3, rfl, ho, hb⟩
      have R3 := Lib.hid (own_irow ho)
      have O3 := Lib.hid (O.out.step hb)
      have R3' := Lib.hid (R.out.below hb)
      have hle := O.out.st.good.length
      clear ho hb
      go_wp2_with fail
      refine (rsame_ok L _ _ _ R3.out R3'.out (by omega)).mono ?_
      rintro e w4 ⟨rfl, hb⟩
      have O4 := Lib.hid (O3.out.step hb)
      clear hb
      go_wp2_with fail
      refine (awake8 _ O4.out.table).mono ?_
      rintro e w5 ⟨rfl, hb⟩
      have O5 := Lib.hid (O4.out.step hb)
      clear hb
      go_wp2
      go_ret
      exact ⟨rfl, O5.out.below⟩
theorem pickPlays_walk (f m : Int) (v : Value) (S : List (Int × Int)) (W : World) (hf : -9223372036854775808 ≤ f ∧ f ≤ 9223372036854775807) (hm : -9223372036854775808 ≤ m ∧ m ≤ 9223372036854775807) (h : ArgOps W v S) (hT : LaidQ W) : Calls Tryd.prog 3 #[.int .i64 f, .int .i64 m, v] W fun e w' => e = .returned (.bool true) ∧ Below W.heap.size W w' := by
  obtain ⟨a, c, rfl, _, hc⟩ := h
  by_cases hq : 200 < S.length
  · exact plays_far f m S.length c a W hq hT
  · cases hb : newB f m with
    | false => exact plays_no f m S.length c a W (by omega) hf hm hb hT
    | true =>
      obtain ⟨f, m, rfl, rfl, h1, h2⟩ := newB_yes hb
      exact plays_in f m S a c W h1 h2 (by omega) hT hc
end Go.Proofs.YthaficpjcgdmjaaDoor
