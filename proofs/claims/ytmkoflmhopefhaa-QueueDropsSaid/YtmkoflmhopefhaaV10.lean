/- Rows of a law's own beside its queue; the walk of QueueRound. Condition: the slice lies as it says. -/
import Derived.Test.YtmkoflmhopefhaaOV
namespace Go.Proofs.Ytmkoflmhopefhaa
open Go.RowKit
set_option maxRecDepth 100000

theorem own_ne_q {w : World} {base b : Nat} {v : Value} {K L : List Int} (h : OwnI w base v K) (q : QAt w b L) : ∀ g, v.ownBlock = some g → g ≠ b := fun g hg => by
  obtain ⟨cs, h1⟩ := own_block h hg
  obtain ⟨cs', h2⟩ := q.block
  exact kind_ne h1 h2 (by simp only [kindOf]; decide)
theorem OwnQ.append {W w w' : World} {b base : Nat} {v : Value} {L K : List Int} (h : OwnQ W w b L) (ho : OwnI w base v K) (hbase : W.heap.size ≤ base) (hg : w.grownBy w' v.ownBlock) : OwnQ W w' b L :=
  ⟨h.st.kept hg (fun e => own_ne_q ho h.st b e.symm rfl), h.below.grown hg h.below.size (fun k hk => Nat.le_trans hbase (ho.lt k hk).1), h.le⟩
theorem own_toV {w w' : World} {base b : Nat} {v : Value} {K L L' : List Int} (h : OwnI w base v K) (q : QAt w b L) (t : ToV w w' b L') : OwnI w' base v K :=
  h.kept t.grown (by
    cases hv : v.ownBlock with
    | none => exact Or.inl rfl
    | some g => exact Or.inr (fun e => own_ne_q h q g hv (Option.some.inj e)))
theorem own_otherV {w w' : World} {base B : Nat} {v u : Value} {K M : List Int} (h : OwnI w base v K) (hlow : ∀ g, v.ownBlock = some g → g < B) (hu : OwnI w B u M) (hg : w.grownBy w' u.ownBlock) : OwnI w' base v K :=
  h.kept hg (by
    cases hv : v.ownBlock with
    | none => exact Or.inl rfl
    | some g => exact Or.inr (fun e => by
        have := (hu.lt g e.symm).1
        have := hlow g hv
        omega))
theorem ZRow.get {w : World} {a : Option Addr} {n c : Nat} {R : List Int} (h : ZRow w (.slice a n c) R) {k : Nat} (hk : k < R.length) : ∃ g o, a = some ⟨g, o, none⟩ ∧ w.cell? ⟨g, o + k, none⟩ = some (.int .i64 (R.getD k 0)) := by
  rcases h with ⟨_, rfl⟩ | ⟨g, o, c', cs, h0, _, _, h3, h4⟩
  · exact absurd hk (Nat.not_lt_zero _)
  · simp only [Value.slice.injEq] at h0
    exact ⟨g, o, h0.1, by rw [cell_of_row w g _ _ _ _ h3]; exact h4 k hk⟩

/-- What a push answers, and what it makes of the row. -/
theorem pushE_ways (R : List Int) (x : Int) : (pushE R x = 0 ∧ pushL R x = R ++ [x]) ∨ ((pushE R x = 2 ∨ pushE R x = 5) ∧ pushL R x = R) := by
  unfold pushE pushL
  cases numV x with
  | false => exact Or.inr ⟨Or.inl (by simp), by simp⟩
  | true =>
    by_cases h : x ∈ R
    · exact Or.inr ⟨Or.inr (by simp [h]), by simp [h]⟩
    · exact Or.inl ⟨by simp [h], by simp [h]⟩
/-- A queue, and a row of the law's own that has what it has. -/
structure OneV (W w : World) (b : Nat) (R : List Int) (v : Value) : Prop where
  q : OwnQ W w b R
  all : OwnI w W.heap.size v R
theorem OneV.to {W w w' : World} {b : Nat} {R : List Int} {v : Value} (h : OneV W w b R v) (t : ToV w w' b R) : OneV W w' b R v := ⟨h.q.to t, own_toV h.all h.q.st t⟩

/-- A queue that turns, the row of what it had, and the row of its heads. -/
structure RoundV (W w : World) (b B : Nat) (row R : List Int) (va : Value) (K : List Int) (vh : Value) : Prop where
  q : OwnQ W w b row
  all : OwnI w W.heap.size va R
  low : ∀ g, va.ownBlock = some g → g < B
  heads : OwnI w B vh K
  base : W.heap.size ≤ B
  size : B ≤ w.heap.size
theorem RoundV.step {W w w' : World} {b B : Nat} {row R K : List Int} {va vh : Value} (h : RoundV W w b B row R va K vh) (hb : Below w.heap.size w w') : RoundV W w' b B row R va K vh :=
  ⟨h.q.step hb, own_step h.all hb, h.low, own_step h.heads hb, h.base, Nat.le_trans h.size hb.size⟩
theorem RoundV.to {W w w' : World} {b B : Nat} {row row' R K : List Int} {va vh : Value} (h : RoundV W w b B row R va K vh) (t : ToV w w' b row') : RoundV W w' b B row' R va K vh :=
  ⟨h.q.to t, own_toV h.all h.q.st t, h.low, own_toV h.heads h.q.st t, h.base, Nat.le_trans h.size t.grown.size⟩
theorem RoundV.append {W w w' : World} {b B : Nat} {row R K K' : List Int} {va vh vh' : Value} (h : RoundV W w b B row R va K vh) (hg : w.grownBy w' vh.ownBlock) (ho : OwnI w' B vh' K') : RoundV W w' b B row R va K' vh' :=
  ⟨h.q.append h.heads h.base hg, own_otherV h.all h.low h.heads hg, h.low, ho, h.base, Nat.le_trans h.size hg.size⟩
theorem RoundV.drawsE {W w w' : World} {b B nq : Nat} {row R K : List Int} {va vh : Value} (h : RoundV W w b B row R va K vh) (e : w' = w.drewN nq) : RoundV W w' b B row R va K vh := by
  subst e; exact h.step (below_drawsV w nq)
theorem OwnQ.drawsE {W w w' : World} {b nq : Nat} {L : List Int} (h : OwnQ W w b L) (e : w' = w.drewN nq) : OwnQ W w' b L := by
  subst e; exact h.draws nq
theorem ZRow.drawsE {w w' : World} {nq : Nat} {v : Value} {L : List Int} (h : ZRow w v L) (e : w' = w.drewN nq) : ZRow w' v L := by
  subst e; exact h.below (below_drawsV w nq)
theorem rotV (R : List Int) (k : Nat) (h : k < R.length) : R.drop k ++ R.take k = R.getD k 0 :: (R.drop (k + 1) ++ R.take k) := by
  rw [List.drop_eq_getElem_cons h, List.getD_eq_getElem?_getD, List.getElem?_eq_getElem h]; rfl
theorem dropV (R : List Int) (k : Nat) (h : k < R.length) : R.drop k = R.getD k 0 :: R.drop (k + 1) := by
  rw [List.drop_eq_getElem_cons h, List.getD_eq_getElem?_getD, List.getElem?_eq_getElem h]; rfl

theorem queueRound_far (q c : Nat) (a : Option Addr) (W : World) (hq : 100 < q) : Calls Try.prog 5 #[.slice a q c] W fun e w' => e = .returned (.bool true) ∧ Below W.heap.size W w' := by
  go_enter Try.func5, Try.ntmps5
  go_wp2_with (go_at_call 8; refine (awake12 _).mono ?_; rintro e w2 ⟨rfl, hb⟩; have B := Lib.hid hb; clear hb)
  go_ret
  exact ⟨rfl, B.out⟩
set_option maxHeartbeats 8000000 in
theorem queueRound_in (L : List Int) (a : Option Addr) (c : Nat) (W : World) (hl : L.length ≤ 100) (h : RRow W (.slice a L.length c) L) :
    Calls Try.prog 5 #[.slice a L.length c] W fun e w' => e = .returned (.bool true) ∧ Below W.heap.size W w' := by
  obtain ⟨ii, hi, hi0, hi1, hi2⟩ := info_parts intInfoV
  obtain ⟨a', c', ha, hc⟩ := h.open_
  cases ha
  have HC := Lib.hid hc
  obtain ⟨m, hm⟩ : ∃ m, m = L.length := ⟨_, rfl⟩
  rw [← hm] at hl ⊢
  have HM := Lib.hid hm
  have hd : decide (100 < m) = false := decide_eq_false (by omega)
  clear hc hm h
  go_enter Try.func5, Try.ntmps5
  go_wp2_with fail
  refine (OwnQ.new (Below.refl _ _)).mono ?_
  rintro e w1 ⟨b, rfl, ho, -⟩
  have O1 := Lib.hid ho
  clear ho
  go_wp2_with fail
  go_loopw [4, 5] (fun l i wr => ∃ (k : Nat) (R : List Int), i = .int .i64 (k : Int) ∧ k ≤ m ∧ OneV W wr b R l) (fun _ i _ => m - (intOf i).toNat)
  case atStart => exact ⟨0, [], rfl, Nat.zero_le _, O1.out, World.ownsRow_nil _ _ _ _⟩
  case round =>
    rename_i l0 _ _
    obtain ⟨k, R, rfl, hk, ho⟩ := hrel
    have O := Lib.hid ho
    clear ho
    by_cases hlt : k < m
    · obtain ⟨g, o, rfl, hbW, hcell⟩ := HC.out k (by have := HM.out; omega)
      generalize L.getD k 0 = x at hcell
      have CK := Lib.hid hcell
      have ck := hcell _ O.out.q.below
      have PU := Lib.hid (push_okV b R x _ O.out.q.st)
      have hR8 : R.length ≤ 8 := O.out.q.st.good.length
      clear hcell
      rcases pushE_ways R x with ⟨h1, h2⟩ | ⟨h1, h2⟩
      · rw [h1, h2] at PU
        clear h1 h2
        go_wp2_with fail
        refine PU.out.mono ?_
        rintro e w3 ⟨rfl, ht⟩
        have Q3 := Lib.hid (O.out.q.to ht)
        have A3 := Lib.hid (own_toV O.out.all O.out.q.st ht)
        have ck := CK.out _ Q3.out.below
        have hb4 := (Below.refl w3.heap.size w3).alloc (Nat.le_refl _) (.cells #[.int .i64 x] 3)
        have Q4 := Lib.hid (Q3.out.step hb4)
        have A4 := Lib.hid (own_step A3.out hb4)
        clear ht hb4
        go_wp2_with (at_builtin; refine wpList_append_own _ rfl (.tmp 33) (.tmp 38) 26 rfl W.heap.size 3 ii (.int .i64 0) 1 8 Try.underlying26 hi hi0 hi1 hi2 rfl (by decide) _ R.length _ rfl A4.out ⟨w3.heap.size, 0, none⟩ 1 1 [.int .i64 x] rfl rfl (one_atV w3 _ _) (by simp [Value.oneCell']) (by unfold maxLen; omega) (by omega) Q4.out.below.size ?_; intro v5 w5 ho hg _)
        have A5 : Hid (OwnI w5 W.heap.size v5 (R ++ [x])) := Lib.hid (by unfold OwnI; rw [intsV_snoc, List.length_append]; exact ho)
        have Q5 := Lib.hid (Q4.out.append A4.out (Nat.le_refl _) hg)
        clear ho hg
        go_wp2
        go_roundw
        case rel => exact ⟨k + 1, _, by go_num, by omega, Q5.out, A5.out⟩
        case measure => simp [intOf]; omega
      · rw [h2] at PU
        generalize pushE R x = er at PU h1
        clear h2
        rcases h1 with rfl | rfl
        · go_wp2_with fail
          refine PU.out.mono ?_
          rintro e w3 ⟨rfl, ht⟩
          have O3 := Lib.hid (O.out.to ht)
          clear ht
          go_wp2
          go_roundw
          case rel => exact ⟨k + 1, _, by go_num, by omega, O3.out⟩
          case measure => simp [intOf]; omega
        · go_wp2_with fail
          refine PU.out.mono ?_
          rintro e w3 ⟨rfl, ht⟩
          have O3 := Lib.hid (O.out.to ht)
          clear ht
          go_wp2
          go_roundw
          case rel => exact ⟨k + 1, _, by go_num, by omega, O3.out⟩
          case measure => simp [intOf]; omega
    · obtain rfl : k = m := by omega
      have hR8 : R.length ≤ 8 := O.out.q.st.good.length
      obtain ⟨a1, c1, rfl⟩ := owns_slice O.out.all
      rename_i wr
      have P : Hid (RoundV W wr b wr.heap.size R R (.slice a1 R.length c1) [] (.slice none 0 0)) := Lib.hid ⟨O.out.q, O.out.all, fun g hg => (O.out.all.lt g hg).2, World.ownsRow_nil _ _ _ _, O.out.q.below.size, Nat.le_refl _⟩
      obtain ⟨n, hn⟩ : ∃ n, n = R.length := ⟨_, rfl⟩
      rw [← hn] at P hR8 ⊢
      have HN := Lib.hid hn
      obtain ⟨B, hB⟩ : ∃ B, B = wr.heap.size := ⟨_, rfl⟩
      rw [← hB] at P
      clear hn hB hlt O
      go_wp2_with fail
      go_loopw [6, 7] (fun l i wr => ∃ k : Nat, i = .int .i64 (k : Int) ∧ k ≤ n ∧ RoundV W wr b B (R.drop k ++ R.take k) R (.slice a1 n c1) (R.take k) l) (fun _ i _ => n - (intOf i).toNat)
      case atStart => exact ⟨0, rfl, Nat.zero_le _, by simpa using P.out⟩
      case round =>
        obtain ⟨k, rfl, hk, hP⟩ := hrel
        by_cases hlt : k < n
        · rw [rotV R k (by have := HN.out; omega)] at hP
          have TS := take_snocV R k (by have := HN.out; omega)
          have htl : (R.take k).length ≤ 8 := by rw [List.length_take]; omega
          obtain ⟨x, hx⟩ : ∃ x, x = R.getD k 0 := ⟨_, rfl⟩
          obtain ⟨r, hr⟩ : ∃ r, r = R.drop (k + 1) ++ R.take k := ⟨_, rfl⟩
          rw [← hx] at hP TS
          rw [← hr] at hP
          have E : Hid (r ++ [x] = R.drop (k + 1) ++ R.take (k + 1)) := Lib.hid (by rw [hr, TS, List.append_assoc])
          have TS := Lib.hid TS
          have P1 := Lib.hid hP
          clear hP hx hr
          go_wp2_with fail
          refine (head_isV (show headA (x :: r) = (x, true) from rfl) P1.out.q.st).mono ?_
          rintro e w2 ⟨rfl, nq, hw2⟩
          have hb3 := (Below.refl w2.heap.size w2).alloc (Nat.le_refl _) (.cells #[.int .i64 x] 3)
          have P3 := Lib.hid ((P1.out.drawsE hw2).step hb3)
          clear hw2 hb3
          go_wp2_with (at_builtin; refine wpList_append_own _ rfl (.tmp 51) (.tmp 53) 26 rfl B 3 ii (.int .i64 0) 1 8 Try.underlying26 hi hi0 hi1 hi2 rfl (by decide) _ (R.take k).length _ rfl P3.out.heads ⟨w2.heap.size, 0, none⟩ 1 1 [.int .i64 x] rfl rfl (one_atV w2 _ _) (by simp [Value.oneCell']) (by unfold maxLen; omega) (by omega) P3.out.size ?_; intro v4 w4 ho hg _; have P4 : Hid (RoundV W w4 b B (x :: r) R (.slice a1 n c1) (R.take (k + 1)) v4) := Lib.hid (P3.out.append hg (by unfold OwnI; rw [TS.out, intsV_snoc, List.length_append]; exact ho)); clear ho hg)
          refine (turn_isV (show turnA (x :: r) = (0, r ++ [x]) from rfl) P4.out.q.st).mono ?_
          rintro e w5 ⟨rfl, ht⟩
          have P5 := Lib.hid (P4.out.to ht)
          rw [E.out] at P5
          clear ht
          go_wp2
          go_roundw
          case rel => exact ⟨k + 1, by go_num, by omega, P5.out⟩
          case measure => simp [intOf]; omega
        · obtain rfl : k = n := by omega
          rw [HN.out, List.drop_length, List.take_length, List.nil_append, ← HN.out] at hP
          have A1 := Lib.hid (own_zrow hP.all)
          have Q1 := Lib.hid hP.q
          have H1 := Lib.hid (own_zrow hP.heads)
          clear hP hlt P
          go_wp2_with fail
          refine (rsameV R _ _ _ H1.out.read A1.out.read (Nat.le_trans Q1.out.st.good.length (by decide))).mono ?_
          rintro e w2 ⟨rfl, nq, hw2⟩
          have A2 := Lib.hid (A1.out.drawsE hw2)
          have Q2 := Lib.hid (Q1.out.drawsE hw2)
          clear hw2
          go_wp2_with fail
          refine (all_okV b _ _ Q2.out.st).mono ?_
          rintro e w3 ⟨v3, rfl, hown, hb⟩
          have A3 := Lib.hid (A2.out.below hb)
          have Q3 := Lib.hid (Q2.out.step hb)
          have V3 := Lib.hid (own_zrow hown)
          clear hown hb
          go_wp2_with fail
          refine (rsameV R _ _ _ V3.out.read A3.out.read (Nat.le_trans Q3.out.st.good.length (by decide))).mono ?_
          rintro e w4 ⟨rfl, nq, hw4⟩
          have A4 := Lib.hid (A3.out.drawsE hw4)
          have Q4 := Lib.hid (Q3.out.drawsE hw4)
          clear hw4
          go_wp2_with fail
          go_loopw [10] (fun i wr => ∃ j : Nat, i = .int .i64 (j : Int) ∧ j ≤ k ∧ OwnQ W wr b (R.drop j) ∧ ZRow wr (.slice a1 k c1) R) (fun i _ => k - (intOf i).toNat)
          case atStart => exact ⟨0, rfl, Nat.zero_le _, Q4.out, A4.out⟩
          case round =>
            obtain ⟨j, rfl, hj, hq, hz⟩ := hrel
            by_cases hlt : j < k
            · rw [dropV R j (by have := HN.out; omega)] at hq
              have Q5 := Lib.hid hq
              have A5 := Lib.hid hz
              obtain ⟨g, o, rfl, -⟩ := hz.get (k := j) (by have := HN.out; omega)
              have CK : Hid (∀ V, ZRow V (.slice (some ⟨g, o, none⟩) k c1) R → V.cell? ⟨g, o + j, none⟩ = some (.int .i64 (R.getD j 0))) := Lib.hid fun V hV => by
                obtain ⟨g', o', he, hc⟩ := hV.get (k := j) (by have := HN.out; omega)
                cases he
                exact hc
              generalize R.getD j 0 = x at Q5 CK
              clear hq hz
              go_wp2_with fail
              refine (pop_isV (show popA (x :: R.drop (j + 1)) = (x, 0, R.drop (j + 1)) from rfl) Q5.out.st).mono ?_
              rintro e w6 ⟨rfl, ht⟩
              have A6 := Lib.hid (A5.out.to Q5.out.st ht)
              have Q6 := Lib.hid (Q5.out.to ht)
              have ck := CK.out _ A6.out
              clear ht
              go_wp2
              go_roundw
              case rel => exact ⟨j + 1, by go_num, by omega, Q6.out, A6.out⟩
              case measure => simp [intOf]; omega
            · obtain rfl : j = k := by omega
              rw [HN.out, List.drop_length] at hq
              have Q5 := Lib.hid hq
              clear hq hz hlt
              go_wp2_with fail
              refine (pop_isV (show popA [] = (0, 4, []) from rfl) Q5.out.st).mono ?_
              rintro e w6 ⟨rfl, ht⟩
              have Q6 := Lib.hid (Q5.out.to ht)
              clear ht
              go_wp2_with (go_at_call 8; refine (awake12 _).mono ?_; rintro e w7 ⟨rfl, hb⟩; have B7 := Lib.hid (Q6.out.step hb); clear hb)
              go_ret
              exact ⟨rfl, B7.out.below⟩
theorem queueRound_walk (v : Value) (L : List Int) (W : World) (h : ArgIntsV W v L) : Calls Try.prog 5 #[v] W fun e w' => e = .returned (.bool true) ∧ Below W.heap.size W w' := by
  have h' := h.read
  obtain ⟨a, c, rfl, _, hc⟩ := h
  by_cases hq : 100 < L.length
  · exact queueRound_far L.length c a W hq
  · exact queueRound_in L a c W (by omega) h'
end Go.Proofs.Ytmkoflmhopefhaa
