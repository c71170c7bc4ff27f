/- The contracts of package budget's New, Open, Charge, Refund. Condition: the budget lies as New laid it. -/
import Derived.Test.YtedeifejokcleaaU5
namespace Go.Proofs.Ytedeifejokcleaa
open Go.RowKit Go.Maps
set_option maxRecDepth 100000

/-- One container is turned. -/
theorem BudAt.turn {w w' : World} {b m : Nat} {P : Pt} {L L' : List Nd} (h : BudAt w b m P L) {j : Int} {p : Nat} {x' : Nd} (hp : P j = some p) (hw : w'.heap[p]? = some (ndO x')) (hg : w.grownBy w' (some p)) (h1 : atN j L' = some x') (h2 : ∀ i, i ≠ j → atN i L' = atN i L) (h3 : Good L') : BudAt w' b m P L' := by
  have hbl : ¬ bB m P b := h.boxOut
  refine ⟨(hg.block _ (lt_of_block h.box) (fun e => hbl (Or.inr ⟨j, by rw [hp, Option.some.inj e]⟩))).trans h.box, h.map.same (hg.block _ h.map.lt (fun e => h.mapOut j (by rw [hp, Option.some.inj e]))), fun i e => ?_, fun i n e => ?_, h3⟩
  · by_cases hi : i = j
    · subst hi; rw [h1] at e; cases e
    · rw [h2 i hi] at e
      exact h.out i e
  · by_cases hi : i = j
    · subst hi
      rw [h1] at e
      cases e
      exact ⟨p, hp, hw⟩
    · rw [h2 i hi] at e
      obtain ⟨p', hp', hpn⟩ := h.inn i n e
      exact ⟨p', hp', (hg.block _ (lt_of_block hpn) (fun e2 => hi (h.inj hp' (by rw [hp, Option.some.inj e2])))).trans hpn⟩
theorem Turned.ahead {w w2 w3 : World} {b m : Nat} {P : Pt} {L' : List Nd} (hb : Below w.heap.size w w2) (T : Turned w2 w3 b m P L') : Turned w w3 b m P L' := by
  obtain ⟨⟨P', h1, h2⟩, h3⟩ := T
  exact ⟨⟨P', h1, fun i p e => (h2 i p e).imp id (Nat.le_trans hb.size)⟩, (Only.below hb).trans h3⟩
theorem Turned.node {w w' : World} {b m : Nat} {P : Pt} {L L' : List Nd} (h : BudAt w b m P L) {j : Int} {p : Nat} {x' : Nd} (hp : P j = some p) (hw : w'.heap[p]? = some (ndO x')) (hg : w.grownBy w' (some p)) (h1 : atN j L' = some x') (h2 : ∀ i, i ≠ j → atN i L' = atN i L) (h3 : Good L') : Turned w w' b m P L' :=
  ⟨⟨P, h.turn hp hw hg h1 h2 h3, fun _ _ e => Or.inl e⟩, Only.grown hg (Or.inr ⟨j, hp⟩)⟩

/-- A budget that New made. -/
structure Newed (q : Int) (W : World) (e : Ending) (w : World) : Prop where
  ex : ∃ b m P, e = .returned (.tuple #[.pointer (some ⟨b, 0, none⟩), .int .i64 0]) ∧ BudAt w b m P [(1, 0, q, 0)] ∧ W.heap.size ≤ b ∧ (∀ k, bB m P k → W.heap.size ≤ k)
  below : Below W.heap.size W w
theorem new11_bad (q : Int) (w : World) (h : numB q = false) : Calls Try.prog 10 #[.int .i64 q] w fun e w' => e = .returned (.tuple #[.pointer none, .int .i64 2]) ∧ w = w' := by
  have h' : decide (0 ≤ q ∧ q ≤ 65536) = false := h
  go_enter Try.func10, Try.ntmps10
  go_wp2_with fail
  refine (isNumber_ok q w).mono ?_
  rw [h']
  rintro e w' ⟨rfl, rfl⟩
  go_wp2
  go_ret2
  exact ⟨rfl, rfl⟩
set_option maxHeartbeats 1000000 in
theorem new11_ok (q : Int) (w : World) (h : numB q = true) : Calls Try.prog 10 #[.int .i64 q] w (Newed q w) := by
  have h' : decide (0 ≤ q ∧ q ≤ 65536) = true := h
  have hq : 0 ≤ q ∧ q ≤ 65536 := by simpa using h'
  obtain ⟨w1, hw1⟩ : ∃ w1, w1 = (w.alloc (.map #[] 0)).alloc (.cells #[.map (some w.heap.size)] 42) := ⟨_, rfl⟩
  have B1 : Hid (Below w.heap.size w w1) := Lib.hid (by rw [hw1]; exact below_two _ _ _)
  have H1 : Hid (BudAt w1 (w.heap.size + 1) w.heap.size (fun _ => none) []) := Lib.hid (by
    rw [hw1]
    exact ⟨heap_alloc2_new _ _ _, (PtrsAt.made w).same (((Below.refl _ _).alloc (Nat.le_refl _) _).block _ (by simp)), fun _ _ => rfl, fun i n e => (by simp [atN] at e), by simp, by simp⟩)
  have HQ := Lib.hid hq
  have hmm := @run_makeMap Try.prog
  clear h hq
  go_enter Try.func10, Try.ntmps10
  go_wp2_with fail
  refine (isNumber_ok q w).mono ?_
  rw [h']
  rintro e w' ⟨rfl, rfl⟩
  go_wp2_with fail
  rw [← hw1]
  clear hw1
  refine (add_raw _ _ _ 1 0 q w1 H1.out.cell H1.out.map (by decide)).mono ?_
  rintro e w2 ⟨rfl, h1, h2, h3⟩
  have T := Lib.hid (H1.out.add (up := 0) (q := q) rfl (Good.one q HQ.out.1 HQ.out.2) h1 h2 h3)
  clear h1 h2 h3
  go_wp2
  go_ret2
  obtain ⟨⟨P', t1, t2⟩, t3⟩ := T.out
  refine ⟨⟨_, _, P', rfl, t1, by omega, fun k hk => ?_⟩, Only.old B1.out t3 B1.out.size (fun k hk => ?_)⟩
  · rcases hk with rfl | ⟨i, hi⟩
    · exact Nat.le_refl _
    · rcases t2 i k hi with e | e
      · cases e
      · exact Nat.le_trans B1.out.size e
  · rcases hk with rfl | ⟨i, hi⟩
    · exact Nat.le_refl _
    · cases hi

theorem ask_two {w : World} {b m : Nat} (q id up : Int) (g : Nat) (hc : w.cell? ⟨b, 0, none⟩ = some (.map (some m))) (hg : w.heap[g]? = some (.cells #[.int .i64 id, .int .i64 up] 3 (0, 0))) {er : Int} (he : askE true q [id, up] = er) :
    Calls Try.prog 33 #[.pointer (some ⟨b, 0, none⟩), .int .i64 q, .slice (some ⟨g, 0, none⟩) 2 2] w fun e w' => e = .returned (.int .i64 er) ∧ w = w' := by
  rw [← he]
  refine ask_any _ true q [id, up] g 2 w rfl (isThere_ok b m w hc) (by decide) (fun i hi => ?_)
  rcases (show i = 0 ∨ i = 1 by omega) with rfl | rfl <;> (rw [cell_of_row w g _ _ _ _ hg]; rfl)
theorem fit_two (q id up : Int) : askE true q [id, up] = if fitB id q = true ∧ fitB up q = true then 0 else 2 := by
  unfold askE
  rw [fitB_eq, fitB_eq, if_pos rfl]
  cases numB q <;> cases h1 : idB id <;> cases h2 : idB up <;> simp [h1, h2]
set_option maxHeartbeats 2000000 in
theorem open11 {w : World} {b m : Nat} {P : Pt} {L : List Nd} (h : BudAt w b m P L) (id up q : Int) {er : Int} (he : openE L id up q = er) :
    Calls Try.prog 17 #[.pointer (some ⟨b, 0, none⟩), .int .i64 id, .int .i64 up, .int .i64 q] w fun e w' => e = .returned (.int .i64 er) ∧ Turned w w' b m P (openL L id up q) := by
  obtain ⟨w1, hw1⟩ : ∃ w1, w1 = w.alloc (.cells #[.int .i64 id, .int .i64 up] 3) := ⟨_, rfl⟩
  have B1 : Hid (Below w.heap.size w w1) := Lib.hid (by rw [hw1]; exact (Below.refl _ _).alloc (Nat.le_refl _) _)
  have N1 : Hid (w1.heap[w.heap.size]? = some (.cells #[.int .i64 id, .int .i64 up] 3 (0, 0))) := Lib.hid (by rw [hw1]; exact heap_alloc_new w _)
  have H := Lib.hid h
  have H1 := Lib.hid (h.step B1.out)
  have ft := fit_two q id up
  have stay : ∀ w', er ≠ 0 → Below w.heap.size w w' → Turned w w' b m P (openL L id up q) := fun w' hne hb => by
    unfold openL
    rw [if_neg (by rw [he]; exact hne)]
    exact Turned.stay h hb
  have STAY := Lib.hid stay
  have HE := Lib.hid he
  clear h stay he
  by_cases hf : fitB id q = true ∧ fitB up q = true
  · rw [if_pos hf] at ft
    have FT := Lib.hid ft
    have b1 := (fitB_iff.1 hf.1).1
    have b2 := (fitB_iff.1 hf.2).1
    have HF := Lib.hid hf
    clear ft hf
    cases ha : atN up L with
    | none =>
      have e4 : er = 4 := by rw [← HE.out]; unfold openE; rw [if_pos HF.out, if_pos ha]
      subst e4
      have HP := Lib.hid (H.out.out up ha)
      clear ha
      go_enter Try.func17, Try.ntmps17
      go_wp2_with fail
      rw [← hw1]
      clear hw1
      refine (ask_two q id up _ H1.out.cell N1.out FT.out).mono ?_
      rintro e w2 ⟨rfl, rfl⟩
      have c1 := H1.out.cell
      go_wp2_with (refine wpList_ok0 _ rfl (.tmp 25) (.tmp 26) rfl m P rfl H1.out.map up rfl (by omega) HP.out ?_)
      go_ret
      exact ⟨rfl, STAY.out _ (by decide) B1.out⟩
    | some n =>
      obtain ⟨p, hp, -⟩ := H.out.inn up n ha
      have HP := Lib.hid hp
      have hid := (atN_some ha).2
      have HA := Lib.hid ha
      clear ha hp
      cases hi : atN id L with
      | some x =>
        have e5 : er = 5 := by rw [← HE.out]; unfold openE; rw [if_pos HF.out, if_neg (by rw [HA.out]; simp), if_pos (by rw [hi]; simp)]
        subst e5
        obtain ⟨p2, hp2, -⟩ := H.out.inn id x hi
        have HP2 := Lib.hid hp2
        clear hi hp2
        go_enter Try.func17, Try.ntmps17
        go_wp2_with fail
        rw [← hw1]
        clear hw1
        refine (ask_two q id up _ H1.out.cell N1.out FT.out).mono ?_
        rintro e w2 ⟨rfl, rfl⟩
        have c1 := H1.out.cell
        go_wp2_with (first | (refine wpList_ok1 _ rfl (.tmp 25) (.tmp 26) rfl m P rfl H1.out.map up rfl (by omega) p HP.out ?_) | (refine wpList_look1 _ rfl (.tmp 37) (.tmp 38) rfl m P rfl H1.out.map id rfl (by omega) p2 HP2.out ?_))
        go_ret
        exact ⟨rfl, STAY.out _ (by decide) B1.out⟩
      | none =>
        have HP2 := Lib.hid (H.out.out id hi)
        have HI := Lib.hid hi
        have HQ : Hid (P n.1 = some p) := Lib.hid (by rw [hid]; exact HP.out)
        have HN : Hid (atN n.1 L = some n) := Lib.hid (by rw [hid]; exact HA.out)
        have hlf : leftL L up = leftN L n := by unfold leftL; rw [HA.out]; rfl
        have HLF := Lib.hid hlf
        obtain ⟨d, hd⟩ : ∃ d, leftN L n = d := ⟨_, rfl⟩
        have HD := Lib.hid hd
        clear hi hlf hid hd
        by_cases hlt : d < q
        · have e3 : er = 3 := by rw [← HE.out]; unfold openE; rw [if_pos HF.out, if_neg (by rw [HA.out]; simp), if_neg (by rw [HI.out]; simp), if_pos (by rw [HLF.out, HD.out]; exact hlt)]
          subst e3
          go_enter Try.func17, Try.ntmps17
          go_wp2_with fail
          rw [← hw1]
          clear hw1
          refine (ask_two q id up _ H1.out.cell N1.out FT.out).mono ?_
          rintro e w2 ⟨rfl, rfl⟩
          have c1 := H1.out.cell
          go_wp2_with (first | (refine wpList_ok1 _ rfl (.tmp 25) (.tmp 26) rfl m P rfl H1.out.map up rfl (by omega) p HP.out ?_) | (refine wpList_look0 _ rfl (.tmp 37) (.tmp 38) rfl m P rfl H1.out.map id rfl (by omega) HP2.out ?_) | (go_at_call 29; refine (left_ok H1.out HQ.out HN.out).mono ?_; rw [HD.out]; rintro e w3 ⟨rfl, hb⟩; have B3 := Lib.hid (B1.out.trans (hb.mono B1.out.size)); clear hb))
          go_ret
          exact ⟨rfl, STAY.out _ (by decide) B3.out⟩
        · have e0 : openE L id up q = 0 := by unfold openE; rw [if_pos HF.out, if_neg (by rw [HA.out]; simp), if_neg (by rw [HI.out]; simp), if_neg (by rw [HLF.out, HD.out]; exact hlt)]
          obtain rfl : er = 0 := by rw [← HE.out, e0]
          have hg : Good (openL L id up q) := H.out.good.open id up q
          have hol : openL L id up q = insN (id, up, q, 0) L := by unfold openL; rw [if_pos e0]
          rw [hol] at hg ⊢
          have HG := Lib.hid hg
          clear e0 hg hol
          go_enter Try.func17, Try.ntmps17
          go_wp2_with fail
          rw [← hw1]
          clear hw1
          refine (ask_two q id up _ H1.out.cell N1.out FT.out).mono ?_
          rintro e w2 ⟨rfl, rfl⟩
          have c1 := H1.out.cell
          go_wp2_with (first | (refine wpList_ok1 _ rfl (.tmp 25) (.tmp 26) rfl m P rfl H1.out.map up rfl (by omega) p HP.out ?_) | (refine wpList_look0 _ rfl (.tmp 37) (.tmp 38) rfl m P rfl H1.out.map id rfl (by omega) HP2.out ?_) | (go_at_call 29; refine (left_ok H1.out HQ.out HN.out).mono ?_; rw [HD.out]; rintro e w3 ⟨rfl, hb⟩; have B3 := Lib.hid (B1.out.trans (hb.mono B1.out.size)); have H3 := Lib.hid (H.out.step B3.out); clear hb) | (go_at_call 23; refine (add_raw b m P id up q w3 H3.out.cell H3.out.map b1).mono ?_; rintro e w4 ⟨rfl, h1, h2, h3⟩; have T4 := Lib.hid ((H3.out.add HI.out HG.out h1 h2 h3).ahead B3.out); clear h1 h2 h3))
          go_ret
          exact ⟨rfl, T4.out⟩
  · rw [if_neg hf] at ft
    have FT := Lib.hid ft
    have e2 : er = 2 := by rw [← HE.out]; unfold openE; rw [if_neg hf]
    subst e2
    clear hf ft
    go_enter Try.func17, Try.ntmps17
    go_wp2_with fail
    rw [← hw1]
    clear hw1
    refine (ask_two q id up _ H1.out.cell N1.out FT.out).mono ?_
    rintro e w2 ⟨rfl, rfl⟩
    go_wp2
    go_ret
    exact ⟨rfl, STAY.out _ (by decide) B1.out⟩
end Go.Proofs.Ytedeifejokcleaa
