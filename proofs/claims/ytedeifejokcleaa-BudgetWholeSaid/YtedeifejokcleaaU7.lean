/- The contracts of package budget's Charge, Refund, Close. Condition: the budget lies as New laid it. -/
import Derived.Test.YtedeifejokcleaaU6
namespace Go.Proofs.Ytedeifejokcleaa
open Go.RowKit Go.Maps
set_option maxRecDepth 100000

theorem setU_at {L : List Nd} {id d : Int} {x : Nd} (ha : atN id L = some x) : atN id (L.map (setU id d)) = some (x.1, x.2.1, x.2.2.1, x.2.2.2 + d) ∧ ∀ i, i ≠ id → atN i (L.map (setU id d)) = atN i L := by
  refine ⟨?_, fun i hi => ?_⟩
  · rw [atN_map (setU_id id d), ha, Option.map_some]
    unfold setU
    rw [if_pos (atN_some ha).2]
  · rw [atN_map (setU_id id d)]
    cases e : atN i L with
    | none => rfl
    | some y =>
      rw [Option.map_some]
      unfold setU
      rw [if_neg (by rw [(atN_some e).2]; exact hi)]
theorem used_set {w : World} {p : Nat} {x : Nd} {u : Int} (h : w.heap[p]? = some (ndO x)) : (w.setCell ⟨p, 3, none⟩ (.int .i64 u)).heap[p]? = some (ndO (x.1, x.2.1, x.2.2.1, u)) := heap_setCell_same w p 3 _ _ (.int .i64 u) h
theorem up_set {w : World} {p : Nat} {x : Nd} {u : Int} (h : w.heap[p]? = some (ndO x)) : (w.setCell ⟨p, 1, none⟩ (.int .i64 u)).heap[p]? = some (ndO (x.1, u, x.2.2)) := heap_setCell_same w p 1 _ _ (.int .i64 u) h
set_option maxHeartbeats 2000000 in
theorem charge11 {w : World} {b m : Nat} {P : Pt} {L : List Nd} (h : BudAt w b m P L) (id n : Int) {er : Int} (he : chargeE L id n = er) :
    Calls Try.prog 19 #[.pointer (some ⟨b, 0, none⟩), .int .i64 id, .int .i64 n] w fun e w' => e = .returned (.int .i64 er) ∧ Turned w w' b m P (chargeL L id n) := by
  have H := Lib.hid h
  have stay : ∀ w', er ≠ 0 → Below w.heap.size w w' → Turned w w' b m P (chargeL L id n) := fun w' hne hb => by
    unfold chargeL
    rw [if_neg (by rw [he]; exact hne)]
    exact Turned.stay h hb
  have STAY := Lib.hid stay
  clear h stay
  cases ha : atN id L with
  | none =>
    have hne : er ≠ 0 := fun e => by
      rw [e] at he
      obtain ⟨_, ⟨x, hx⟩, _⟩ := chargeE_zero.1 he
      rw [ha] at hx
      cases hx
    have hof : ofE L id n = er := by
      rw [← he]
      unfold ofE chargeE
      rw [if_pos ha, if_pos ha]
    have OF := Lib.hid (of_ok H.out id n hof (show ofP P er id = none by unfold ofP; rw [if_neg hne]))
    have hne2 : (er != 0) = true := by simpa using hne
    have HNE := Lib.hid hne
    clear he ha hof hne
    go_enter Try.func19, Try.ntmps19
    go_wp2_with fail
    refine OF.out.mono ?_
    rintro e w1 ⟨rfl, hb⟩
    have B1 := Lib.hid hb
    clear hb
    go_wp2
    go_ret
    exact ⟨rfl, STAY.out _ HNE.out B1.out⟩
  | some x =>
    obtain ⟨p, hp, -⟩ := H.out.inn id x ha
    have HP := Lib.hid hp
    have HA := Lib.hid ha
    cases hf : fitB id n with
    | false =>
      have e2 : er = 2 := by rw [← he]; unfold chargeE; rw [if_neg (by rw [hf]; decide)]
      subst e2
      have OF := Lib.hid (of_ok H.out id n (show ofE L id n = 2 by unfold ofE; rw [if_neg (by rw [hf]; decide)]) (show ofP P 2 id = none from rfl))
      clear he ha hp hf
      go_enter Try.func19, Try.ntmps19
      go_wp2_with fail
      refine OF.out.mono ?_
      rintro e w1 ⟨rfl, hb⟩
      have B1 := Lib.hid hb
      clear hb
      go_wp2
      go_ret
      exact ⟨rfl, STAY.out _ (by decide) B1.out⟩
    | true =>
      have OF := Lib.hid (of_ok H.out id n (show ofE L id n = 0 by unfold ofE; rw [if_pos hf, if_neg (by rw [ha]; simp)]) (show ofP P 0 id = some p by unfold ofP; rw [if_pos rfl]; exact hp))
      have hid := (atN_some ha).2
      have HQ : Hid (P x.1 = some p) := Lib.hid (by rw [hid]; exact hp)
      have HN : Hid (atN x.1 L = some x) := Lib.hid (by rw [hid]; exact ha)
      have hlf : leftL L id = leftN L x := by unfold leftL; rw [ha]; rfl
      have HF := Lib.hid hf
      have hfn := (fitB_iff.1 hf).2
      obtain ⟨d, hd⟩ : ∃ d, leftN L x = d := ⟨_, rfl⟩
      have HD := Lib.hid hd
      rw [hd] at hlf
      have HLF := Lib.hid hlf
      have HE := Lib.hid he
      have hok := H.out.good.ok x (atN_some ha).1
      clear he ha hp hid hf hd hlf
      by_cases hlt : d < n
      · have e3 : er = 3 := by rw [← HE.out]; unfold chargeE; rw [if_pos HF.out, if_neg (by rw [HA.out]; simp), if_pos (by rw [HLF.out]; exact hlt)]
        subst e3
        go_enter Try.func19, Try.ntmps19
        go_wp2_with fail
        refine OF.out.mono ?_
        rintro e w1 ⟨rfl, hb⟩
        have B1 := Lib.hid hb
        have H1 := Lib.hid (H.out.step hb)
        clear hb
        unfold ptV
        go_wp2_with (go_at_call 29; refine (left_ok H1.out HQ.out HN.out).mono ?_; rw [HD.out]; rintro e w3 ⟨rfl, hb⟩; have B3 := Lib.hid (B1.out.trans (hb.mono B1.out.size)); clear hb)
        go_ret
        exact ⟨rfl, STAY.out _ (by decide) B3.out⟩
      · have e0 : chargeE L id n = 0 := by unfold chargeE; rw [if_pos HF.out, if_neg (by rw [HA.out]; simp), if_neg (by rw [HLF.out]; exact hlt)]
        obtain rfl : er = 0 := by rw [← HE.out, e0]
        have hg := H.out.good.charge id n
        have hcl : chargeL L id n = L.map (setU id n) := by unfold chargeL; rw [if_pos e0]
        rw [hcl] at hg ⊢
        have HG := Lib.hid hg
        have hw : IntKind.i64.wrap (x.2.2.2 + n) = x.2.2.2 + n := IntWalk.i64_in _ (by omega)
        clear e0 hg hcl
        go_enter Try.func19, Try.ntmps19
        go_wp2_with fail
        refine OF.out.mono ?_
        rintro e w1 ⟨rfl, hb⟩
        have B1 := Lib.hid hb
        have H1 := Lib.hid (H.out.step hb)
        clear hb
        unfold ptV
        go_wp2_with (go_at_call 29; refine (left_ok H1.out HQ.out HN.out).mono ?_; rw [HD.out]; rintro e w3 ⟨rfl, hb⟩; have B3 := Lib.hid (B1.out.trans (hb.mono B1.out.size)); have H3 := Lib.hid (H.out.step B3.out); clear hb; obtain ⟨x', hx', hpn⟩ := H3.out.node HP.out; obtain rfl : x = x' := (by rw [HA.out] at hx'; exact Option.some.inj hx'); have HPN := Lib.hid hpn; obtain ⟨-, -, -, a3, af⟩ := ndO_cells hpn; have f3 := af 3; clear hx' hpn af)
        go_ret
        exact ⟨rfl, Turned.ahead B3.out (Turned.node H3.out HP.out (used_set HPN.out) (grownBy_setCell _ _ _ _) (setU_at HA.out).1 (setU_at HA.out).2 HG.out)⟩
set_option maxHeartbeats 2000000 in
theorem refund11 {w : World} {b m : Nat} {P : Pt} {L : List Nd} (h : BudAt w b m P L) (id n : Int) {er : Int} (he : refundE L id n = er) :
    Calls Try.prog 20 #[.pointer (some ⟨b, 0, none⟩), .int .i64 id, .int .i64 n] w fun e w' => e = .returned (.int .i64 er) ∧ Turned w w' b m P (refundL L id n) := by
  have H := Lib.hid h
  have stay : ∀ w', er ≠ 0 → Below w.heap.size w w' → Turned w w' b m P (refundL L id n) := fun w' hne hb => by
    unfold refundL
    rw [if_neg (by rw [he]; exact hne)]
    exact Turned.stay h hb
  have STAY := Lib.hid stay
  clear h stay
  cases ha : atN id L with
  | none =>
    have hne : er ≠ 0 := fun e => by
      rw [e] at he
      obtain ⟨_, x, hx, _⟩ := refundE_zero.1 he
      rw [ha] at hx
      cases hx
    have hof : ofE L id n = er := by
      rw [← he]
      unfold ofE refundE
      rw [if_pos ha, ha]
    have OF := Lib.hid (of_ok H.out id n hof (show ofP P er id = none by unfold ofP; rw [if_neg hne]))
    have hne2 : (er != 0) = true := by simpa using hne
    have HNE := Lib.hid hne
    clear he ha hof hne
    go_enter Try.func20, Try.ntmps20
    go_wp2_with fail
    refine OF.out.mono ?_
    rintro e w1 ⟨rfl, hb⟩
    have B1 := Lib.hid hb
    clear hb
    go_wp2
    go_ret
    exact ⟨rfl, STAY.out _ HNE.out B1.out⟩
  | some x =>
    obtain ⟨p, hp, -⟩ := H.out.inn id x ha
    have HP := Lib.hid hp
    have HA := Lib.hid ha
    cases hf : fitB id n with
    | false =>
      have e2 : er = 2 := by rw [← he]; unfold refundE; rw [if_neg (by rw [hf]; decide)]
      subst e2
      have OF := Lib.hid (of_ok H.out id n (show ofE L id n = 2 by unfold ofE; rw [if_neg (by rw [hf]; decide)]) (show ofP P 2 id = none from rfl))
      clear he ha hp hf
      go_enter Try.func20, Try.ntmps20
      go_wp2_with fail
      refine OF.out.mono ?_
      rintro e w1 ⟨rfl, hb⟩
      have B1 := Lib.hid hb
      clear hb
      go_wp2
      go_ret
      exact ⟨rfl, STAY.out _ (by decide) B1.out⟩
    | true =>
      have OF := Lib.hid (of_ok H.out id n (show ofE L id n = 0 by unfold ofE; rw [if_pos hf, if_neg (by rw [ha]; simp)]) (show ofP P 0 id = some p by unfold ofP; rw [if_pos rfl]; exact hp))
      have HF := Lib.hid hf
      have hfn := (fitB_iff.1 hf).2
      have HE := Lib.hid he
      have hok := H.out.good.ok x (atN_some ha).1
      clear he ha hp hf
      by_cases hlt : x.2.2.2 < n
      · have e3 : er = 9 := by rw [← HE.out]; unfold refundE; rw [if_pos HF.out, HA.out]; simp [hlt]
        subst e3
        go_enter Try.func20, Try.ntmps20
        go_wp2_with fail
        refine OF.out.mono ?_
        rintro e w1 ⟨rfl, hb⟩
        have B1 := Lib.hid hb
        have H1 := Lib.hid (H.out.step hb)
        obtain ⟨x', hx', hpn⟩ := H1.out.node HP.out
        obtain rfl : x = x' := by rw [HA.out] at hx'; exact Option.some.inj hx'
        obtain ⟨-, -, -, a3, -⟩ := ndO_cells hpn
        clear hb hx' hpn
        unfold ptV
        go_wp2
        go_ret
        exact ⟨rfl, STAY.out _ (by decide) B1.out⟩
      · have e0 : refundE L id n = 0 := by unfold refundE; rw [if_pos HF.out, HA.out]; simp; omega
        obtain rfl : er = 0 := by rw [← HE.out, e0]
        have hg := H.out.good.refund id n
        have hcl : refundL L id n = L.map (setU id (-n)) := by unfold refundL; rw [if_pos e0]
        rw [hcl] at hg ⊢
        have HG := Lib.hid hg
        have hw : IntKind.i64.wrap (x.2.2.2 - n) = x.2.2.2 - n := IntWalk.i64_in _ (by omega)
        clear e0 hg hcl
        go_enter Try.func20, Try.ntmps20
        go_wp2_with fail
        refine OF.out.mono ?_
        rintro e w1 ⟨rfl, hb⟩
        have B1 := Lib.hid hb
        have H1 := Lib.hid (H.out.step hb)
        obtain ⟨x', hx', hpn⟩ := H1.out.node HP.out
        obtain rfl : x = x' := by rw [HA.out] at hx'; exact Option.some.inj hx'
        obtain ⟨-, -, -, a3, af⟩ := ndO_cells hpn
        have f3 := af 3
        have HPN := Lib.hid hpn
        clear hb hx' hpn af
        unfold ptV
        go_wp2
        go_ret
        exact ⟨rfl, Turned.ahead B1.out (Turned.node H1.out HP.out (used_set HPN.out) (grownBy_setCell _ _ _ _) (setU_at HA.out).1 (setU_at HA.out).2 HG.out)⟩
end Go.Proofs.Ytedeifejokcleaa
