/- The contract of package slots' Wait. Condition: the table lies as New laid it, or there is none. -/
import Derived.Test.YtbmiodkdoacbeaaY12
namespace Go.Proofs.Ytbmiodkdoacbeaa
open Go.RowKit Go.Maps
set_option maxRecDepth 100000

theorem waitY_no (p : Option Addr) (pid : Int) (w : World) (h : NoTab w p) : Calls Try.prog 19 #[.pointer p, .int .i64 pid] w fun e w' => e = .returned (.tuple #[.slice none 0 0, .int .i64 1]) ∧ w = w' := by
  go_enter Try.func19, Try.ntmps19
  go_wp2_with fail
  refine (findY_no p pid w h).mono ?_
  rintro e w' ⟨rfl, rfl⟩
  go_wp2
  go_ret2
  exact ⟨rfl, rfl⟩
set_option maxHeartbeats 4000000 in
theorem waitY_ok {w : World} {b m : Nat} {n : Int} {P : Pt} {L : List Nd} (h : TabAt w b m n P L) (pid : Int) (hi : I64 pid) :
    Calls Try.prog 19 #[.pointer (some ⟨b, 0, none⟩), .int .i64 pid] w (AnsY w b m n P (waitE L pid) (waitL n L pid) (waitR n L pid)) := by
  have A := Lib.hid (fun er w' => AnsY.none_ (w' := w') h er)
  cases hp : P pid with
  | none =>
    have e4 : waitE L pid = 4 := by unfold waitE; rw [h.none_ hp]
    have eL : waitL n L pid = L := by unfold waitL; rw [e4]; rfl
    have eR : waitR n L pid = [] := by unfold waitR; rw [e4]; rfl
    rw [e4, eL, eR]
    have H := Lib.hid h
    have HP := Lib.hid hp
    clear h hp e4 eL eR
    go_enter Try.func19, Try.ntmps19
    go_wp2_with fail
    refine (findY_none H.out hi HP.out).mono ?_
    rintro e w' ⟨rfl, rfl⟩
    go_wp2
    go_ret2
    exact A.out _ _ (Below.refl _ _)
  | some p =>
    obtain ⟨x, hx, hpx⟩ := h.proc hp
    have H := Lib.hid h
    have HP := Lib.hid hp
    cases hch : hasCh pid L with
    | false =>
      have e4 : waitE L pid = 4 := by unfold waitE; rw [hx]; simp only; rw [hch]; rfl
      have eL : waitL n L pid = L := by unfold waitL; rw [e4]; rfl
      have eR : waitR n L pid = [] := by unfold waitR; rw [e4]; rfl
      rw [e4, eL, eR]
      have CH := Lib.hid (isParentY_ok h hp)
      rw [hch] at CH
      clear h hp hx hpx e4 eL eR hch
      go_enter Try.func19, Try.ntmps19
      go_wp2_with fail
      refine (findY_some H.out hi HP.out).mono ?_
      rintro e w' ⟨rfl, rfl⟩
      go_wp2_with fail
      refine CH.out.mono ?_
      rintro e w1 ⟨rfl, hb⟩
      have HB := Lib.hid hb
      clear hb
      go_wp2
      go_ret2
      exact A.out _ _ HB.out
    | true =>
      by_cases h1 : x.2.2.1 = 1
      · have e0 : waitE L pid = 0 := by unfold waitE; rw [hx]; simp only; rw [hch, if_pos rfl, if_pos h1]
        have eL : waitL n L pid = serveL n (L.map (setSt pid 2)) := by unfold waitL; rw [if_pos e0]
        have eR : waitR n L pid = serveR n (L.map (setSt pid 2)) := by unfold waitR; rw [if_pos e0]
        rw [e0, eL, eR]
        have CH := Lib.hid (isParentY_ok h hp)
        rw [hch] at CH
        have HX := Lib.hid hx
        have PX := Lib.hid hpx
        have h1' := Lib.hid h1
        clear h hp hx hpx e0 eL eR hch h1
        go_enter Try.func19, Try.ntmps19
        go_wp2_with fail
        refine (findY_some H.out hi HP.out).mono ?_
        rintro e w' ⟨rfl, rfl⟩
        go_wp2_with fail
        refine CH.out.mono ?_
        rintro e w1 ⟨rfl, hb⟩
        have HB := Lib.hid hb
        have hp1 := below_block hb PX.out
        obtain ⟨a0, a1, a2, a3, af⟩ := prO_cells hp1
        rw [h1'.out] at a2
        have f2 := af 2
        obtain ⟨w2, hw2⟩ : ∃ w2, w2 = w1.setCell ⟨p, 2, none⟩ (.int .i64 2) := ⟨_, rfl⟩
        have g2 : w1.grownBy w2 (some p) := by rw [hw2]; exact grownBy_setCell _ _ _ _
        have T2 : TabAt w2 b m n P (L.map (setSt pid 2)) := (H.out.later hb).turn HP.out (x' := (x.1, x.2.1, 2, x.2.2.2)) (by rw [hw2]; exact heap_setCell_same _ _ 2 _ _ _ hp1) (fun k hk hn => g2.block k hk (fun e => hn (Option.some.inj e))) (atN_setSt_same HX.out) (fun i hi => atN_setSt_other hi) (H.out.good.setSt pid 2 (by decide)) (by simp)
        have T2 := Lib.hid T2
        have O2 : Hid (Only w w2 (tB m P)) := Lib.hid ((Only.below hb).trans (Only.grown g2 (Or.inr ⟨pid, HP.out⟩)))
        clear hb hp1 g2 af
        go_wp2_with fail
        rw [← hw2]
        clear hw2 a0 a1 a2 a3 f2
        refine (serveY_ok T2.out).mono ?_
        rintro e w3 ⟨⟨v, rfl, ho⟩, ⟨⟨P', ht, hs⟩, ho2⟩⟩
        have R3 := Lib.hid (own_base ho O2.out.size)
        have T3 := Lib.hid ht
        have S3 := Lib.hid hs
        have O3 := Lib.hid (O2.out.trans ho2)
        clear ho ht hs ho2
        go_wp2
        go_ret2
        exact ⟨⟨v, rfl, R3.out⟩, ⟨P', T3.out, fun i q e => (S3.out i q e).imp id (fun h => Nat.le_trans O2.out.size h)⟩, O3.out⟩
      · have e9 : waitE L pid = 9 := by unfold waitE; rw [hx]; simp only; rw [hch, if_pos rfl, if_neg h1]
        have eL : waitL n L pid = L := by unfold waitL; rw [e9]; rfl
        have eR : waitR n L pid = [] := by unfold waitR; rw [e9]; rfl
        rw [e9, eL, eR]
        have CH := Lib.hid (isParentY_ok h hp)
        rw [hch] at CH
        have hb1 : (x.2.2.1 == 1) = false := by simpa using h1
        have PX := Lib.hid hpx
        obtain ⟨x1, x2, x3, x4⟩ := x
        simp only at hb1
        clear h hp hx hpx e9 eL eR hch h1
        go_enter Try.func19, Try.ntmps19
        go_wp2_with fail
        refine (findY_some H.out hi HP.out).mono ?_
        rintro e w' ⟨rfl, rfl⟩
        go_wp2_with fail
        refine CH.out.mono ?_
        rintro e w1 ⟨rfl, hb⟩
        have HB := Lib.hid hb
        obtain ⟨a0, a1, a2, a3, -⟩ := prO_cells (below_block hb PX.out)
        simp only at a2
        clear hb
        go_wp2
        go_ret2
        exact A.out _ _ HB.out
end Go.Proofs.Ytbmiodkdoacbeaa
