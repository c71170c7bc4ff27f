/- The contract of package budget's Close. Condition: the budget lies as New laid it. -/
import Derived.Test.YtedeifejokcleaaU7
namespace Go.Proofs.Ytedeifejokcleaa
open Go.RowKit Go.Maps
set_option maxRecDepth 100000

theorem step_ptr_drop (w : World) {ops : Array Oper} {o : Oper} {a : Act} {K : Act → World → Prop} {Q : Exit → Act → World → Prop} {E : Prop} (hgd : o.guard = none) (m x : Operand) (hop : o.op = Op.call { callee := Callee.builtin Builtin.delete, args := #[m, x], argTypes := #[40, 3] }) (b : Nat) (P : Pt) (hm : a.eval m = .map (some b)) (h : PtrsAt w b P) (y : Int) (hx : a.eval x = .int .i64 y) (hy : 1 ≤ y ∧ y ≤ 8)
    (hK : ∀ w', PtrsAt w' b (updP P y none) → w.grownBy w' (some b) → K (a.put o.dst (.tuple #[])) w') :
    if Region.wanted o (yielded ops a.tmps) = true then Oper.wp Try.prog o a w K Q else E := by
  have hw : Region.wanted o (yielded ops a.tmps) = true := by simp [Region.wanted, hgd]
  rw [if_pos hw]
  obtain ⟨D, k, hown, hk, hr⟩ := h
  obtain ⟨w', hrun, r1, r2⟩ := hown.drop keyI Try.underlying40 (keyOfI y (by omega)) o.type
  unfold Oper.wp execOp
  simp only [hop, resolve, invoke, builtin, Sem.run_bind, Sem.run_pure, Result.andThen_ok, List.map_toArray, List.map_cons, List.map_nil, hm, hx, hrun]
  exact hK w' ⟨_, k, r1, hk, hr.del y⟩ r2.grown
theorem enters_Close1 (args : Array Value) (W : World) : (callFunc 34 args).run Try.prog W = .ok (.enter 34 args) W := enters Try.func34 rfl rfl args W
theorem closeIt_no (p bi bn : Nat) (x : Nd) (id : Int) (w : World) (hx : w.heap[p]? = some (ndO x)) (hbi : w.heap[bi]? = some (.cells #[.int .i64 id] 3 (0, 0))) (hne : x.2.1 ≠ id) :
    Calls Try.prog 34 #[.pointer (some ⟨p, 0, none⟩), .pointer (some ⟨bi, 0, none⟩), .pointer (some ⟨bn, 0, none⟩)] w fun e w' => e = .returned (.tuple #[]) ∧ ∃ k, w' = w.drewN k := by
  obtain ⟨a0, a1, a2, a3, -⟩ := ndO_cells hx
  obtain ⟨c0, -⟩ := box1 hbi
  have he : (x.2.1 == id) = false := by simpa using hne
  clear hx hbi hne
  generalize x.2.1 = y at *
  go_enter Try.func34, Try.ntmps34
  go_wp2
  go_quiet (fail)
  go_wp2
  go_end0
  exact ⟨rfl, _, rfl⟩
theorem closeIt_yes (p bi bn q : Nat) (x n : Nd) (id : Int) (w : World) (hx : w.heap[p]? = some (ndO x)) (hq : w.heap[q]? = some (ndO n)) (hbi : w.heap[bi]? = some (.cells #[.int .i64 id] 3 (0, 0))) (hbn : w.heap[bn]? = some (.cells #[.pointer (some ⟨q, 0, none⟩)] 57 (0, 0))) (hne : x.2.1 = id) :
    Calls Try.prog 34 #[.pointer (some ⟨p, 0, none⟩), .pointer (some ⟨bi, 0, none⟩), .pointer (some ⟨bn, 0, none⟩)] w fun e w' => e = .returned (.tuple #[]) ∧ w'.heap[p]? = some (ndO (x.1, n.2.1, x.2.2)) ∧ w.grownBy w' (some p) := by
  obtain ⟨a0, a1, a2, a3, af⟩ := ndO_cells hx
  have f1 := af 1
  obtain ⟨b0, b1, b2, b3, -⟩ := ndO_cells hq
  obtain ⟨c0, -⟩ := box1 hbi
  obtain ⟨d0, -⟩ := box1 hbn
  have he : (x.2.1 == id) = true := by simpa using hne
  have HX := Lib.hid hx
  clear hx hq hbi hbn hne af
  generalize x.2.1 = y at *
  generalize n.2.1 = z at *
  go_enter Try.func34, Try.ntmps34
  go_wp2
  go_quiet (fail)
  obtain ⟨W2, hW2⟩ : ∃ W2, W2 = w.drewN nq := ⟨_, rfl⟩
  have g1 : W2.cell? ⟨p, 1, none⟩ = some (.int .i64 y) := by rw [hW2]; exact a1
  have g2 : W2.frozen? ⟨p, 1, none⟩ = false := by rw [hW2]; exact f1
  have g3 : W2.cell? ⟨bn, 0, none⟩ = some (.pointer (some ⟨q, 0, none⟩)) := by rw [hW2]; exact d0
  have g4 : W2.cell? ⟨q, 1, none⟩ = some (.int .i64 z) := by rw [hW2]; exact b1
  have G5 : Hid (W2.heap[p]? = some (ndO x) ∧ w.grownBy W2 (some p)) := Lib.hid (by rw [hW2]; exact ⟨HX.out, grownBy_of_below (below_drewN (Below.refl _ _) _) _⟩)
  rw [← hW2]
  clear hW2 a0 a1 a2 a3 b0 b1 b2 b3 c0 d0 f1
  go_wp2
  go_end0
  exact ⟨rfl, up_set G5.out.1, grownBy_trans G5.out.2 (grownBy_setCell _ _ _ _)⟩

/-- The containers, those of numbers below one turned. -/
def cutF (id up j : Int) (n : Nd) : Nd := if n.1 < j then reUp id up n else n
theorem cutF_id (id up j : Int) (n : Nd) : (cutF id up j n).1 = n.1 := by unfold cutF; split; exact reUp_id _ _ _; rfl
def cutL (L : List Nd) (id up j : Int) : List Nd := (delN id L).map (cutF id up j)
theorem cutL_good {L : List Nd} (h : Good L) (id j : Int) : Good (cutL L id (upN L id) j) := by
  refine ⟨map_rise (cutF_id _ _ _) (delN_rise h.up), fun n hn => ?_⟩
  obtain ⟨m, hm, rfl⟩ := List.mem_map.1 hn
  have := h.ok m (mem_delN.1 hm).1
  have hu := upN_bounds h id
  unfold cutF reUp
  split
  · split
    · exact ⟨this.1, hu, this.2.2⟩
    · exact this
  · exact this
theorem cutL_at {L : List Nd} (id up i j : Int) (hi : i ≠ j) : atN i (cutL L id up (j + 1)) = atN i (cutL L id up j) := by
  unfold cutL
  rw [atN_map (cutF_id _ _ _), atN_map (cutF_id _ _ _)]
  cases e : atN i (delN id L) with
  | none => rfl
  | some n =>
    rw [Option.map_some, Option.map_some]
    have := (atN_some e).2
    unfold cutF
    by_cases h : n.1 < j
    · rw [if_pos (by omega), if_pos h]
    · rw [if_neg (by omega), if_neg h]
theorem cutL_on {L : List Nd} (id up j : Int) {x : Nd} (h : atN j (cutL L id up j) = some x) : atN j (cutL L id up (j + 1)) = some (reUp id up x) := by
  unfold cutL at h ⊢
  rw [atN_map (cutF_id _ _ _)] at h ⊢
  cases e : atN j (delN id L) with
  | none => rw [e] at h; cases h
  | some n =>
    rw [e, Option.map_some] at h
    have hn := (atN_some e).2
    unfold cutF at h
    rw [if_neg (by omega)] at h
    cases h
    rw [Option.map_some]
    unfold cutF
    rw [if_pos (by omega)]
theorem cutL_one {L : List Nd} (h : Good L) (id up : Int) : cutL L id up 1 = delN id L := by
  unfold cutL
  conv => rhs; rw [← List.map_id (delN id L)]
  apply List.map_congr_left
  intro n hn
  have := (h.ok n (mem_delN.1 hn).1).1
  unfold cutF
  rw [if_neg (by omega)]; rfl
theorem cutL_nine {L : List Nd} (h : Good L) (id up : Int) : cutL L id up 9 = (delN id L).map (reUp id up) := by
  unfold cutL
  apply List.map_congr_left
  intro n hn
  have := (h.ok n (mem_delN.1 hn).1).1
  unfold cutF
  rw [if_pos (by omega)]
theorem cutL_no {L : List Nd} (id up j : Int) (h : atN j (cutL L id up j) = none) : cutL L id up (j + 1) = cutL L id up j := by
  unfold cutL at h ⊢
  rw [atN_map (cutF_id _ _ _), Option.map_eq_none_iff, atN_none] at h
  apply List.map_congr_left
  intro n hn
  have := h n hn
  unfold cutF
  by_cases c : n.1 < j
  · rw [if_pos (by omega), if_pos c]
  · rw [if_neg (by omega), if_neg c]
/-- Close under way. -/
structure ClsSt (w : World) (b m : Nat) (P : Pt) (L : List Nd) (id : Int) (q bn : Nat) (n : Nd) (j : Int) (V : World) : Prop where
  st : BudAt V b m (updP P id none) (cutL L id (upN L id) j)
  only : Only w V (bB m P)
  gone : V.heap[q]? = some (ndO n)
  box : V.heap[w.heap.size]? = some (.cells #[.int .i64 id] 3 (0, 0))
  node : V.heap[bn]? = some (.cells #[.pointer (some ⟨q, 0, none⟩)] 57 (0, 0))
theorem cls_round {w : World} {b m : Nat} {P : Pt} {L : List Nd} {id : Int} {q bn : Nat} {n : Nd} {j : Int} {V : World} (h0 : BudAt w b m P L) (h : ClsSt w b m P L id q bn n j V) (hq : P id = some q) (hn : n.2.1 = upN L id) {p : Nat} (hp : updP P id none j = some p) :
    Calls Try.prog 34 #[.pointer (some ⟨p, 0, none⟩), .pointer (some ⟨w.heap.size, 0, none⟩), .pointer (some ⟨bn, 0, none⟩)] V fun e w' => e = .returned (.tuple #[]) ∧ ClsSt w b m P L id q bn n (j + 1) w' := by
  obtain ⟨x, hx, hpx⟩ := h.st.node hp
  have hj : j ≠ id := fun e => by rw [e, updP_same] at hp; cases hp
  have hp0 : P j = some p := by rw [updP_other _ _ _ hj] at hp; exact hp
  have hpq : p ≠ q := fun e => hj (h0.inj hp0 (by rw [hq, e]))
  by_cases hu : x.2.1 = id
  · refine (closeIt_yes p _ bn q x n id V hpx h.gone h.box h.node hu).mono ?_
    rintro e w' ⟨rfl, h1, h2⟩
    have keep : ∀ (k : Nat) (o : Obj), V.heap[k]? = some o → k ≠ p → w'.heap[k]? = some o := fun k o hk hne => (h2.block k (lt_of_block hk) (fun e => hne (Option.some.inj e))).trans hk
    have hpb : ∀ (k : Nat) (cs : Array Value) (t : TypeId), V.heap[k]? = some (.cells cs t (0, 0)) → t ≠ 49 → k ≠ p := fun k cs t hk ht e => by
      rw [e, hpx] at hk
      exact ht (by injection hk with h; injection h with _ h; exact h.symm)
    have hre : reUp id (upN L id) x = (x.1, n.2.1, x.2.2) := by unfold reUp; rw [if_pos hu, hn]
    refine ⟨rfl, h.st.turn hp h1 h2 (by rw [cutL_on _ _ _ hx, hre]) (fun i hi => cutL_at _ _ _ _ hi) (cutL_good h0.good _ _), h.only.trans (Only.grown h2 (Or.inr ⟨j, hp0⟩)), keep _ _ h.gone (fun e => hpq e.symm), keep _ _ h.box (hpb _ _ _ h.box (by decide)), keep _ _ h.node (hpb _ _ _ h.node (by decide))⟩
  · refine (closeIt_no p _ bn x id V hpx h.box hu).mono ?_
    rintro e w' ⟨rfl, k, rfl⟩
    have hb : Below V.heap.size V (V.drewN k) := below_drewN (Below.refl _ _) k
    have hre : reUp id (upN L id) x = x := by unfold reUp; rw [if_neg hu]
    have hst := h.st.step hb
    refine ⟨rfl, ⟨hst.box, hst.map, fun i e => ?_, fun i y e => ?_, cutL_good h0.good _ _⟩, h.only.trans (Only.below hb), h.gone, h.box, h.node⟩
    · by_cases hi : i = j
      · subst hi; rw [cutL_on _ _ _ hx] at e; cases e
      · rw [cutL_at _ _ _ _ hi] at e
        exact hst.out i e
    · by_cases hi : i = j
      · subst hi
        rw [cutL_on _ _ _ hx, hre] at e
        cases e
        exact ⟨p, hp, hpx⟩
      · rw [cutL_at _ _ _ _ hi] at e
        exact hst.inn i y e
theorem BudAt.drop {w w' : World} {b m : Nat} {P : Pt} {L : List Nd} (h : BudAt w b m P L) (id : Int) (h1 : PtrsAt w' m (updP P id none)) (h3 : w.grownBy w' (some m)) : BudAt w' b m (updP P id none) (delN id L) := by
  refine ⟨(h3.block _ (lt_of_block h.box) (fun e => h.boxOut (Or.inl (Option.some.inj e)))).trans h.box, h1, fun i e => ?_, fun i n e => ?_, delN_rise h.good.up, fun n hn => h.good.ok n (mem_delN.1 hn).1⟩
  · rw [atN_delN] at e
    by_cases hi : i = id
    · rw [hi, updP_same]
    · rw [if_neg hi] at e
      rw [updP_other _ _ _ hi]
      exact h.out i e
  · rw [atN_delN] at e
    by_cases hi : i = id
    · rw [if_pos hi] at e; cases e
    · rw [if_neg hi] at e
      obtain ⟨p, hp, hpn⟩ := h.inn i n e
      exact ⟨p, by rw [updP_other _ _ _ hi]; exact hp, (h3.block _ (lt_of_block hpn) (fun e => h.mapOut i (by rw [hp, Option.some.inj e]))).trans hpn⟩
set_option maxHeartbeats 2000000 in
theorem close11 {w : World} {b m : Nat} {P : Pt} {L : List Nd} (h : BudAt w b m P L) (id : Int) {er : Int} (he : closeE L id = er) :
    Calls Try.prog 18 #[.pointer (some ⟨b, 0, none⟩), .int .i64 id] w fun e w' => e = .returned (.int .i64 er) ∧ Turned w w' b m P (closeL L id) := by
  have hmf : ∀ (fn : Fn) (first cap : Array Value) (w : World), (Instr.makeFunc fn first cap).run Try.prog w = .ok (.func fn first cap) w := fun _ _ _ _ => rfl
  have H := Lib.hid h
  have stay : ∀ w', er ≠ 0 → Below w.heap.size w w' → Turned w w' b m P (closeL L id) := fun w' hne hb => by
    unfold closeL
    rw [if_neg (by rw [he]; exact hne)]
    exact Turned.stay h hb
  have STAY := Lib.hid stay
  obtain ⟨w1, hw1⟩ : ∃ w1, w1 = w.alloc (.cells #[.int .i64 id] 3) := ⟨_, rfl⟩
  have B1 : Hid (Below w.heap.size w w1) := Lib.hid (by rw [hw1]; exact (Below.refl _ _).alloc (Nat.le_refl _) _)
  have N1 : Hid (w1.heap[w.heap.size]? = some (.cells #[.int .i64 id] 3 (0, 0))) := Lib.hid (by rw [hw1]; exact heap_alloc_new w _)
  have H1 := Lib.hid (h.step B1.out)
  clear h stay
  cases ha : atN id L with
  | none =>
    have hne : er ≠ 0 := fun e => by
      rw [e] at he
      obtain ⟨_, _, x, hx, _⟩ := closeE_zero.1 he
      rw [ha] at hx
      cases hx
    have hof : ofE L id 0 = er := by
      rw [← he]
      unfold ofE closeE
      rw [if_pos ha, ha]
    have OF := Lib.hid (of_ok H1.out id 0 hof (show ofP P er id = none by unfold ofP; rw [if_neg hne]))
    have hne2 : (er != 0) = true := by simpa using hne
    have HNE := Lib.hid hne
    clear he ha hof hne
    go_enter Try.func18, Try.ntmps18
    go_wp2_with fail
    rw [← hw1]
    clear hw1
    refine OF.out.mono ?_
    rintro e w2 ⟨rfl, hb⟩
    have B2 := Lib.hid (B1.out.trans (hb.mono B1.out.size))
    clear hb
    unfold ptV
    go_wp2
    go_ret
    exact ⟨rfl, STAY.out _ HNE.out (B2.out.alloc B2.out.size _)⟩
  | some x =>
    obtain ⟨q, hq, -⟩ := H.out.inn id x ha
    have HQ := Lib.hid hq
    have HA := Lib.hid ha
    have OF := Lib.hid (of_ok H1.out id 0 (ofE_zero (H.out.good.fits ha) ha) (show ofP P 0 id = some q by unfold ofP; rw [if_pos rfl]; exact hq))
    have HE := Lib.hid he
    have HF := Lib.hid (H.out.good.fits ha)
    have hib := (fitB_iff.1 HF.out).1
    clear he ha hq
    by_cases hs : id = 1 ∨ x.2.2.2 ≠ 0
    · have e9 : er = 9 := by rw [← HE.out]; unfold closeE; rw [if_pos HF.out, HA.out]; simp only; rw [if_pos hs]
      subst e9
      by_cases h1 : id = 1
      · subst h1
        go_enter Try.func18, Try.ntmps18
        go_wp2_with fail
        rw [← hw1]
        clear hw1
        refine OF.out.mono ?_
        rintro e w2 ⟨rfl, hb⟩
        have B2 := Lib.hid (B1.out.trans (hb.mono B1.out.size))
        have N2 := below_block hb N1.out
        obtain ⟨w3, hw3⟩ : ∃ w3, w3 = w2.alloc (.cells #[.pointer (some ⟨q, 0, none⟩)] 57) := ⟨_, rfl⟩
        have hb3 : Below w2.heap.size w2 w3 := by rw [hw3]; exact (Below.refl _ _).alloc (Nat.le_refl _) _
        have c0 := cell_of_one (below_block hb3 N2)
        have B3 := Lib.hid (B2.out.trans (hb3.mono B2.out.size))
        rw [hw3] at c0
        clear hb N2 hb3
        unfold ptV
        go_wp2
        go_ret
        exact ⟨rfl, STAY.out _ (by decide) (by have := B3.out; rw [hw3] at this; exact this)⟩
      · have hu : x.2.2.2 ≠ 0 := hs.resolve_left h1
        have d1 : (id == 1) = false := by simpa using h1
        have d2 : (x.2.2.2 != 0) = true := by simpa using hu
        go_enter Try.func18, Try.ntmps18
        go_wp2_with fail
        rw [← hw1]
        clear hw1
        refine OF.out.mono ?_
        rintro e w2 ⟨rfl, hb⟩
        have B2 := Lib.hid (B1.out.trans (hb.mono B1.out.size))
        have N2 := below_block hb N1.out
        obtain ⟨w3, hw3⟩ : ∃ w3, w3 = w2.alloc (.cells #[.pointer (some ⟨q, 0, none⟩)] 57) := ⟨_, rfl⟩
        have hb3 : Below w2.heap.size w2 w3 := by rw [hw3]; exact (Below.refl _ _).alloc (Nat.le_refl _) _
        have c0 := cell_of_one (below_block hb3 N2)
        have B3 := Lib.hid (B2.out.trans (hb3.mono B2.out.size))
        have c1 : w3.cell? ⟨q, 3, none⟩ = some (.int .i64 x.2.2.2) := by
          obtain ⟨x', hx', hqx⟩ := (H.out.step B3.out).node HQ.out
          obtain rfl : x = x' := by rw [HA.out] at hx'; exact Option.some.inj hx'
          exact (ndO_cells hqx).2.2.2.1
        rw [hw3] at c0 c1
        clear hb N2 hb3 hs hu
        unfold ptV
        go_wp2
        go_ret
        exact ⟨rfl, STAY.out _ (by decide) (by have := B3.out; rw [hw3] at this; exact this)⟩
    · have h1 : id ≠ 1 := fun e => hs (Or.inl e)
      have hu : x.2.2.2 = 0 := Classical.not_not.1 fun e => hs (Or.inr e)
      have e0 : closeE L id = 0 := closeE_zero.2 ⟨HF.out, h1, x, HA.out, hu⟩
      obtain rfl : er = 0 := by rw [← HE.out, e0]
      have hcl : closeL L id = (delN id L).map (reUp id (upN L id)) := by unfold closeL; rw [if_pos e0]
      rw [hcl, ← cutL_nine H.out.good]
      have HUP : Hid (x.2.1 = upN L id) := Lib.hid (by unfold upN; rw [HA.out]; rfl)
      have d1 : (id == 1) = false := by simpa using h1
      have d2 : (x.2.2.2 != 0) = false := by simp [hu]
      clear e0 hcl hs hu
      go_enter Try.func18, Try.ntmps18
      go_wp2_with fail
      rw [← hw1]
      clear hw1
      refine OF.out.mono ?_
      rintro e w2 ⟨rfl, hb⟩
      have B2 := Lib.hid (B1.out.trans (hb.mono B1.out.size))
      have N2 := Lib.hid (below_block hb N1.out)
      obtain ⟨w3, hw3⟩ : ∃ w3, w3 = w2.alloc (.cells #[.pointer (some ⟨q, 0, none⟩)] 57) := ⟨_, rfl⟩
      have B23 : Hid (Below w2.heap.size w2 w3) := Lib.hid (by rw [hw3]; exact (Below.refl _ _).alloc (Nat.le_refl _) _)
      have M3 : Hid (w3.heap[w2.heap.size]? = some (.cells #[.pointer (some ⟨q, 0, none⟩)] 57 (0, 0))) := Lib.hid (by rw [hw3]; exact heap_alloc_new w2 _)
      have N3 := Lib.hid (below_block B23.out N2.out)
      have B3 := Lib.hid (B2.out.trans (B23.out.mono B2.out.size))
      have H3 := Lib.hid (H.out.step B3.out)
      obtain ⟨x', hx', hqx⟩ := H3.out.node HQ.out
      obtain rfl : x = x' := by rw [HA.out] at hx'; exact Option.some.inj hx'
      have Q3 := Lib.hid hqx
      have c0 := cell_of_one N3.out
      have c1 := (ndO_cells hqx).2.2.2.1
      have c2 := H3.out.cell
      rw [hw3] at c0 c1 c2
      have E3 := Lib.hid hw3
      clear hb hx' hqx
      unfold ptV
      go_wp2_with fail
      rw [← hw3] at c0 c1 c2 ⊢
      clear hw3
      have P3 : Hid (PtrsAt w3.drew m P) := Lib.hid H3.out.map
      go_region_law (refine step_ptr_drop _ (by rfl) _ _ (by rfl) m P (by rfl) P3.out id (by rfl) hib ?_; intro w4 hp4 hg4; have P4 := Lib.hid hp4; have G4 := Lib.hid hg4; clear hp4 hg4)
      all_goals
        have hd : Below w3.heap.size w3 w3.drew := (Below.refl _ _).drew
        have keep : ∀ (k : Nat) (cs : Array Value) (t : TypeId), w3.heap[k]? = some (.cells cs t (0, 0)) → w4.heap[k]? = some (.cells cs t (0, 0)) := fun k cs t hk =>
          (G4.out.block k (lt_of_block (below_block hd hk)) (fun e => by
            obtain ⟨es, ck, hm⟩ := H3.out.map.isMap
            rw [Option.some.inj e, hm] at hk
            cases hk)).trans hk
        have J4 : Hid (ClsSt w b m P L id q w2.heap.size x 1 w4) := Lib.hid ⟨by rw [cutL_one H.out.good]; exact (H3.out.step hd).drop id P4.out G4.out, (Only.below (B3.out.trans (hd.mono B3.out.size))).trans (Only.grown G4.out (Or.inl rfl)), keep _ _ _ Q3.out, keep _ _ _ N3.out, keep _ _ _ M3.out⟩
        clear keep hd
        go_wp2_with fail
        refine (each_ok 34 #[.pointer (some ⟨w.heap.size, 0, none⟩), .pointer (some ⟨w2.heap.size, 0, none⟩)] enters_Close1 b m (updP P id none) (ClsSt w b m P L id q w2.heap.size x) _ (fun j V hV => ⟨hV.st.cell, hV.st.map⟩) (fun j p V _ _ hp hV => cls_round H.out hV HQ.out HUP.out hp) (fun j V _ _ hp hV => ?_) J4.out).mono ?_
        · have hno := cutL_no id (upN L id) j (hno_of hV.st hp)
          exact ⟨by rw [hno]; exact hV.st, hV.only, hV.gone, hV.box, hV.node⟩
        rintro e w5 ⟨rfl, hJ⟩
        have J5 := Lib.hid hJ
        clear hJ
        go_wp2
        go_ret
        refine ⟨rfl, ⟨_, J5.out.st, fun i p e => ?_⟩, J5.out.only⟩
        by_cases hi : i = id
        · rw [hi, updP_same] at e; cases e
        · rw [updP_other _ _ _ hi] at e
          exact Or.inl e
end Go.Proofs.Ytedeifejokcleaa
