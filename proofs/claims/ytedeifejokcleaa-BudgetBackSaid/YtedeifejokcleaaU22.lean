/- The walk of BudgetBack. No condition. Written by gen/gen_u22.py. -/
import Derived.Test.YtedeifejokcleaaOU
import Derived.Test.YtedeifejokcleaaU21
namespace Go.Proofs.Ytedeifejokcleaa
open Go.RowKit Go.Maps
set_option maxRecDepth 100000

theorem setU_undo {L : List Nd} (i d : Int) : (L.map (setU i d)).map (setU i (-d)) = L := by
  rw [List.map_map]
  conv => rhs; rw [← List.map_id L]
  apply List.map_congr_left
  rintro ⟨a, b, c, u⟩ _
  simp only [Function.comp, setU]
  by_cases h : a = i
  · simp [h]; omega
  · simp [h]
theorem setU_zero {L : List Nd} (id : Int) : L.map (setU id 0) = L := by
  conv => rhs; rw [← List.map_id L]
  apply List.map_congr_left
  rintro ⟨a, b, c, u⟩ _
  simp only [setU]
  split <;> simp
/-- What is charged is refunded. -/
theorem charge_back {L : List Nd} (hg : Good L) {id n : Int} (he : chargeE L id n = 0) : refundE (chargeL L id n) id n = 0 ∧ refundL (chargeL L id n) id n = L := by
  obtain ⟨hf, ⟨x, hx⟩, _⟩ := chargeE_zero.1 he
  have hcl : chargeL L id n = L.map (setU id n) := by unfold chargeL; rw [if_pos he]
  have h0 := (hg.ok x (atN_some hx).1).2.2.2.1
  have hr : refundE (chargeL L id n) id n = 0 := refundE_zero.2 ⟨hf, _, by rw [hcl]; exact (setU_at hx).1, by simp only; omega⟩
  refine ⟨hr, ?_⟩
  unfold refundL
  rw [if_pos hr, hcl, setU_undo]
/-- What is opened is closed. -/
theorem open_back {q : Int} {L : List Nd} (h : Tree q L) {id up n : Int} (he : openE L id up n = 0) : closeE (openL L id up n) id = 0 ∧ closeL (openL L id up n) id = L ∧ id ≠ 1 ∧ atN id (openL L id up n) = some (id, up, n, 0) := by
  obtain ⟨⟨hf1, hf2⟩, ⟨nu, hnu⟩, hno, hle⟩ := openE_zero.1 he
  have hol : openL L id up n = insN (id, up, n, 0) L := by unfold openL; rw [if_pos he]
  have hne := atN_none.1 hno
  have b1 := fitB_iff.1 hf1
  obtain ⟨u, hu⟩ := h.first
  have h1 : id ≠ 1 := fun e => by rw [e, hu] at hno; cases hno
  have hat : atN id (openL L id up n) = some (id, up, n, 0) := by rw [hol, atN_insN hne, if_pos rfl]
  have hc : closeE (openL L id up n) id = 0 := closeE_zero.2 ⟨fitB_iff.2 (by omega), h1, _, hat, rfl⟩
  refine ⟨hc, ?_, h1, hat⟩
  unfold closeL upN
  rw [if_pos hc, hat, hol, delN_insN (x := (id, up, n, 0)) hne]
  conv => rhs; rw [← List.map_id L]
  apply List.map_congr_left
  intro m hm
  unfold reUp
  rw [if_neg (h.noUp b1.1.1 hno m hm)]
  rfl
theorem used_close {L : List Nd} {id up n m : Int} (hat : atN id L = some (id, up, n, 0)) (hf : fitB id 0 = true) (hm : m ≠ 0) (he : chargeE L id m = 0) : closeE (chargeL L id m) id = 9 ∧ closeL (chargeL L id m) id = chargeL L id m := by
  have hcl : chargeL L id m = L.map (setU id m) := by unfold chargeL; rw [if_pos he]
  have e1 := (setU_at (d := m) hat).1
  have h9 : closeE (chargeL L id m) id = 9 := by
    rw [hcl]
    unfold closeE
    rw [if_pos hf, e1]
    simp only
    rw [if_pos (Or.inr (by omega))]
  refine ⟨h9, ?_⟩
  unfold closeL
  rw [if_neg (by rw [h9]; decide)]
/-- The budget, and a list that was told. -/
structure QB (W w : World) (b : Nat) (v : Value) (L L' : List Nd) : Prop where
  ob : OB W w b (fun k => v.ownBlock = some k) L'
  row : w.ownsRow W.heap.size 49 4 v L.length (ndsV L)
theorem QB.step {W w w' : World} {b : Nat} {v : Value} {L L' : List Nd} (h : QB W w b v L L') (hb : Below w.heap.size w w') : QB W w' b v L L' := ⟨h.ob.step hb, own_step h.row hb⟩
section
variable {W w : World} {b : Nat} {v : Value} {L L' : List Nd} (h : QB W w b v L L')
include h
theorem qb_open (id up q : Int) {er : Int} (he : openE L' id up q = er) : Calls Try.prog 17 #[.pointer (some ⟨b, 0, none⟩), .int .i64 id, .int .i64 up, .int .i64 q] w fun e w' => e = .returned (.int .i64 er) ∧ QB W w' b v L (openL L' id up q) :=
  (ob_open h.ob id up q he).mono fun _ _ ⟨a, c, d⟩ => ⟨a, c, d.own h.row (fun _ hg => hg)⟩
theorem qb_close (id : Int) {er : Int} (he : closeE L' id = er) : Calls Try.prog 18 #[.pointer (some ⟨b, 0, none⟩), .int .i64 id] w fun e w' => e = .returned (.int .i64 er) ∧ QB W w' b v L (closeL L' id) :=
  (ob_close h.ob id he).mono fun _ _ ⟨a, c, d⟩ => ⟨a, c, d.own h.row (fun _ hg => hg)⟩
theorem qb_charge (id n : Int) {er : Int} (he : chargeE L' id n = er) : Calls Try.prog 19 #[.pointer (some ⟨b, 0, none⟩), .int .i64 id, .int .i64 n] w fun e w' => e = .returned (.int .i64 er) ∧ QB W w' b v L (chargeL L' id n) :=
  (ob_charge h.ob id n he).mono fun _ _ ⟨a, c, d⟩ => ⟨a, c, d.own h.row (fun _ hg => hg)⟩
theorem qb_refund (id n : Int) {er : Int} (he : refundE L' id n = er) : Calls Try.prog 20 #[.pointer (some ⟨b, 0, none⟩), .int .i64 id, .int .i64 n] w fun e w' => e = .returned (.int .i64 er) ∧ QB W w' b v L (refundL L' id n) :=
  (ob_refund h.ob id n he).mono fun _ _ ⟨a, c, d⟩ => ⟨a, c, d.own h.row (fun _ hg => hg)⟩
end
theorem noOpen {L : List Nd} {id up n er : Int} (h : openE L id up n = er) (hne : er ≠ 0) : openL L id up n = L := by unfold openL; rw [if_neg (by rw [h]; exact hne)]
theorem noCharge {L : List Nd} {id n er : Int} (h : chargeE L id n = er) (hne : er ≠ 0) : chargeL L id n = L := by unfold chargeL; rw [if_neg (by rw [h]; exact hne)]
set_option maxHeartbeats 2000000 in
theorem back11_far (q id up k m : Int) (n c : Nat) (a : Option Addr) (W : World) (h : numB q = true) (h2 : 100 < n) : Calls Try.prog 6 #[.int .i64 q, .slice a n c, .int .i64 id, .int .i64 up, .int .i64 k, .int .i64 m] W fun e w' => e = .returned (.bool true) ∧ Below W.heap.size W w' := by
  have NO := Lib.hid (ob_new (W := W) q (Below.refl _ _) h)
  clear h
  go_enter Try.func6, Try.ntmps6
  go_wp2_with fail
  refine NO.out.mono ?_
  rintro e w1 ⟨b, rfl, h, -⟩
  have H1 := Lib.hid h.below
  clear h
  go_wp2_with fail
  refine (awake11 _).mono ?_
  rintro e w2 ⟨rfl, hb⟩
  have B2 := Lib.hid (H1.out.trans (hb.mono H1.out.size))
  clear hb
  go_wp2
  go_ret
  exact ⟨rfl, B2.out⟩
theorem back11_bad (q id up k m : Int) (n c : Nat) (a : Option Addr) (W : World) (h : numB q = false) : Calls Try.prog 6 #[.int .i64 q, .slice a n c, .int .i64 id, .int .i64 up, .int .i64 k, .int .i64 m] W fun e w' => e = .returned (.bool true) ∧ Below W.heap.size W w' := by
  have NB := Lib.hid (new11_bad q W h)
  clear h
  go_enter Try.func6, Try.ntmps6
  go_wp2_with fail
  refine NB.out.mono ?_
  rintro e w1 ⟨rfl, rfl⟩
  go_wp2_with fail
  refine (awake11 _).mono ?_
  rintro e w1 ⟨rfl, hb⟩
  have B1 := Lib.hid hb
  clear hb
  go_wp2
  go_ret
  exact ⟨rfl, B1.out⟩
set_option maxHeartbeats 16000000 in
theorem back11_in (q id up k m : Int) (S : List Op11) (n c : Nat) (a : Option Addr) (W : World) (hn : n = S.length) (h : n ≤ 100) (hq : numB q = true) (hv : ArgOps11 W (.slice a n c) S) : Calls Try.prog 6 #[.int .i64 q, .slice a n c, .int .i64 id, .int .i64 up, .int .i64 k, .int .i64 m] W fun e w' => e = .returned (.bool true) ∧ Below W.heap.size W w' := by
  have NO := Lib.hid (ob_new (W := W) q (Below.refl _ _) hq)
  have T1 := Lib.hid (Tree.one (q := q) (by simpa [numB] using hq))
  have RO : Hid (∀ w, Calls Try.prog 11 #[.int .i64 q] w fun e w' => ∃ v, e = .returned (.tuple #[v, .int .i64 0]) ∧ w'.ownsRow w.heap.size 49 4 v 1 (ndsV [(1, 0, q, 0)]) ∧ Below w.heap.size w w') := Lib.hid fun w => rnew11_ok q w hq
  have HV := Lib.hid hv
  have HN := Lib.hid hn
  have d1 : ¬ 100 < n := by omega
  clear hq hv hn
  go_enter Try.func6, Try.ntmps6
  go_wp2_with fail
  refine NO.out.mono ?_
  rintro e w1 ⟨b, rfl, h1, -⟩
  have H1 := Lib.hid h1
  clear h1
  go_wp2_with fail
  refine (RO.out w1).mono ?_
  rintro e w2 ⟨v, rfl, ho, hb⟩
  have P2 : Hid (Pair11 W w2 b v [(1, 0, q, 0)]) := Lib.hid ⟨H1.out.more hb fun k hk => ⟨Or.inr (ho.lt k hk).1, (ho.lt k hk).2⟩, own_base ho H1.out.below.size⟩
  clear ho hb
  go_wp2_with fail
  go_loopw [15, 17] (fun l i wr => ∃ (j : Nat) (L : List Nd), i = .int .i64 (j : Int) ∧ j ≤ n ∧ Pair11 W wr b l L ∧ Tree q L) (fun _ i _ => (n - (intOf i).toNat))
  case atStart => exact ⟨0, _, rfl, Nat.zero_le _, P2.out, T1.out⟩
  case round =>
    obtain ⟨j, L, rfl, hj, hP, hT⟩ := hrel
    have PP := Lib.hid hP
    have TT := Lib.hid hT
    clear hP hT
    by_cases hlt : j < n
    · have hjl : j < S.length := by rw [← HN.out]; exact hlt
      obtain ⟨⟨d, i1, i2, i3⟩, hx⟩ : ∃ y, S.getD j default = y := ⟨_, rfl⟩
      obtain ⟨g, o, rfl, h64, hc⟩ := HV.out.at_ hjl hx
      obtain ⟨y0, y1, y2, y3⟩ := hc _ PP.out.ob.below
      have hlt2 : (j : Int) < (n : Int) := by omega
      clear hx hc h64
      go_wp2_with fail
      refine (play11 PP.out d i1 i2 i3).mono ?_
      rintro e w3 ⟨v', rfl, hP⟩
      have P3 := Lib.hid hP
      have T3 := Lib.hid (TT.out.play d i1 i2 i3)
      clear hP y0 y1 y2 y3
      go_wp2
      go_roundw
      case rel => exact ⟨j + 1, _, by go_num, by omega, P3.out, T3.out⟩
      case measure => simp [intOf]; omega
    · obtain rfl : j = n := by omega
      clear hlt
      go_wp2_with fail
      refine (ob_all PP.out.ob).mono ?_
      rintro e w3 ⟨vw, rfl, ho, hb⟩
      have Q3 : Hid (QB W w3 b vw L L) := Lib.hid ⟨PP.out.ob.more hb fun k hk => ⟨Or.inr (ho.lt k hk).1, (ho.lt k hk).2⟩, own_base ho PP.out.ob.below.size⟩
      clear ho hb
      obtain ⟨eo, heo⟩ : ∃ eo, openE L id up k = eo := ⟨_, rfl⟩
      have HEO := Lib.hid heo
      by_cases co : eo = 0
      · subst co
        obtain ⟨p1, p2, p3, p4⟩ := open_back TT.out heo
        have PP1 := Lib.hid p1
        have PP2 := Lib.hid p2
        have PP4 := Lib.hid p4
        have PF := Lib.hid (closeE_zero.1 p1).1
        have GG := Lib.hid (TT.out.good.open id up k)
        obtain ⟨L1, hL1⟩ : ∃ L1, openL L id up k = L1 := ⟨_, rfl⟩
        rw [hL1] at PP1 PP2 PP4 GG
        have HL1 := Lib.hid hL1
        obtain ⟨ef, hef⟩ : ∃ ef, chargeE L1 id m = ef := ⟨_, rfl⟩
        have HEF := Lib.hid hef
        clear heo p1 p2 p3 p4 hL1
        by_cases cf : ef = 0
        · subst cf
          by_cases cm : m = 0
          · subst cm
            have Z1 : Hid (chargeL L1 id 0 = L1) := Lib.hid (by unfold chargeL; rw [if_pos hef]; exact setU_zero id)
            clear hef
            go_wp2_with fail
            refine (qb_open Q3.out id up k HEO.out).mono ?_
            rw [HL1.out]
            rintro e w4 ⟨rfl, h⟩
            have Q4 := Lib.hid h
            clear h
            go_wp2_with fail
            refine (qb_charge Q4.out id 0 HEF.out).mono ?_
            rw [Z1.out]
            rintro e w5 ⟨rfl, h⟩
            have Q5 := Lib.hid h
            clear h
            go_wp2_with fail
            refine (qb_close Q5.out id PP1.out).mono ?_
            rw [PP2.out]
            rintro e w6 ⟨rfl, h⟩
            have Q6 := Lib.hid h
            clear h
            obtain ⟨ec, hec⟩ : ∃ ec, chargeE L up k = ec := ⟨_, rfl⟩
            have HEC := Lib.hid hec
            by_cases cc : ec = 0
            · subst cc
              obtain ⟨r1, r2⟩ := charge_back TT.out.good hec
              have RR1 := Lib.hid r1
              have RR2 := Lib.hid r2
              clear hec r1 r2
              go_wp2_with fail
              refine (qb_charge Q6.out up k HEC.out).mono ?_
              rintro e wc ⟨rfl, h⟩
              have QC := Lib.hid h
              clear h
              go_wp2_with fail
              refine (qb_refund QC.out up k RR1.out).mono ?_
              rw [RR2.out]
              rintro e wd ⟨rfl, h⟩
              have QD := Lib.hid h
              clear h
              go_wp2_with fail
              refine (ob_all QD.out.ob).mono ?_
              rintro e we ⟨ve, rfl, ho, hb⟩
              have QE := Lib.hid (QD.out.step hb)
              have NE := Lib.hid (NdsAt.of_row ho)
              clear ho hb
              go_wp2_with fail
              refine (same11 L ve vw we (Nat.le_trans TT.out.good.len (by decide)) NE.out (NdsAt.of_row QE.out.row)).mono ?_
              rintro e wf ⟨rfl, hb⟩
              have QF := Lib.hid (QE.out.step hb)
              clear hb
              go_wp2_with fail
              refine (awake11 _).mono ?_
              rintro e wg ⟨rfl, hb⟩
              have BG := Lib.hid (QF.out.ob.below.trans (hb.mono QF.out.ob.below.size))
              clear hb
              go_wp2
              go_ret
              exact ⟨rfl, BG.out⟩
            · have dc : (ec == 0) = false := by simpa using cc
              have NC := Lib.hid (noCharge hec cc)
              clear hec cc
              go_wp2_with fail
              refine (qb_charge Q6.out up k HEC.out).mono ?_
              rw [NC.out]
              rintro e wd ⟨rfl, h⟩
              have QD := Lib.hid h
              clear h
              go_wp2_with fail
              refine (ob_all QD.out.ob).mono ?_
              rintro e we ⟨ve, rfl, ho, hb⟩
              have QE := Lib.hid (QD.out.step hb)
              have NE := Lib.hid (NdsAt.of_row ho)
              clear ho hb
              go_wp2_with fail
              refine (same11 L ve vw we (Nat.le_trans TT.out.good.len (by decide)) NE.out (NdsAt.of_row QE.out.row)).mono ?_
              rintro e wf ⟨rfl, hb⟩
              have QF := Lib.hid (QE.out.step hb)
              clear hb
              go_wp2_with fail
              refine (awake11 _).mono ?_
              rintro e wg ⟨rfl, hb⟩
              have BG := Lib.hid (QF.out.ob.below.trans (hb.mono QF.out.ob.below.size))
              clear hb
              go_wp2
              go_ret
              exact ⟨rfl, BG.out⟩
          · have hm0 : 0 < m := by have := (fitB_iff.1 (chargeE_zero.1 hef).1).2; omega
            obtain ⟨u1, u2⟩ := used_close PP4.out PF.out cm hef
            have UU1 := Lib.hid u1
            have UU2 := Lib.hid u2
            obtain ⟨r1, r2⟩ := charge_back GG.out hef
            have RA1 := Lib.hid r1
            have RA2 := Lib.hid r2
            have dm : (m == 0) = false := by simpa using cm
            clear hef u1 u2 r1 r2 cm
            go_wp2_with fail
            refine (qb_open Q3.out id up k HEO.out).mono ?_
            rw [HL1.out]
            rintro e w4 ⟨rfl, h⟩
            have Q4 := Lib.hid h
            clear h
            go_wp2_with fail
            refine (qb_charge Q4.out id m HEF.out).mono ?_
            rintro e w5 ⟨rfl, h⟩
            have Q5 := Lib.hid h
            clear h
            go_wp2_with fail
            refine (qb_close Q5.out id UU1.out).mono ?_
            rw [UU2.out]
            rintro e w6 ⟨rfl, h⟩
            have Q6 := Lib.hid h
            clear h
            go_wp2_with fail
            refine (qb_refund Q6.out id m RA1.out).mono ?_
            rw [RA2.out]
            rintro e w7 ⟨rfl, h⟩
            have Q7 := Lib.hid h
            clear h
            go_wp2_with fail
            refine (qb_close Q7.out id PP1.out).mono ?_
            rw [PP2.out]
            rintro e w8 ⟨rfl, h⟩
            have Q8 := Lib.hid h
            clear h
            obtain ⟨ec, hec⟩ : ∃ ec, chargeE L up k = ec := ⟨_, rfl⟩
            have HEC := Lib.hid hec
            by_cases cc : ec = 0
            · subst cc
              obtain ⟨r1, r2⟩ := charge_back TT.out.good hec
              have RR1 := Lib.hid r1
              have RR2 := Lib.hid r2
              clear hec r1 r2
              go_wp2_with fail
              refine (qb_charge Q8.out up k HEC.out).mono ?_
              rintro e wc ⟨rfl, h⟩
              have QC := Lib.hid h
              clear h
              go_wp2_with fail
              refine (qb_refund QC.out up k RR1.out).mono ?_
              rw [RR2.out]
              rintro e wd ⟨rfl, h⟩
              have QD := Lib.hid h
              clear h
              go_wp2_with fail
              refine (ob_all QD.out.ob).mono ?_
              rintro e we ⟨ve, rfl, ho, hb⟩
              have QE := Lib.hid (QD.out.step hb)
              have NE := Lib.hid (NdsAt.of_row ho)
              clear ho hb
              go_wp2_with fail
              refine (same11 L ve vw we (Nat.le_trans TT.out.good.len (by decide)) NE.out (NdsAt.of_row QE.out.row)).mono ?_
              rintro e wf ⟨rfl, hb⟩
              have QF := Lib.hid (QE.out.step hb)
              clear hb
              go_wp2_with fail
              refine (awake11 _).mono ?_
              rintro e wg ⟨rfl, hb⟩
              have BG := Lib.hid (QF.out.ob.below.trans (hb.mono QF.out.ob.below.size))
              clear hb
              go_wp2
              go_ret
              exact ⟨rfl, BG.out⟩
            · have dc : (ec == 0) = false := by simpa using cc
              have NC := Lib.hid (noCharge hec cc)
              clear hec cc
              go_wp2_with fail
              refine (qb_charge Q8.out up k HEC.out).mono ?_
              rw [NC.out]
              rintro e wd ⟨rfl, h⟩
              have QD := Lib.hid h
              clear h
              go_wp2_with fail
              refine (ob_all QD.out.ob).mono ?_
              rintro e we ⟨ve, rfl, ho, hb⟩
              have QE := Lib.hid (QD.out.step hb)
              have NE := Lib.hid (NdsAt.of_row ho)
              clear ho hb
              go_wp2_with fail
              refine (same11 L ve vw we (Nat.le_trans TT.out.good.len (by decide)) NE.out (NdsAt.of_row QE.out.row)).mono ?_
              rintro e wf ⟨rfl, hb⟩
              have QF := Lib.hid (QE.out.step hb)
              clear hb
              go_wp2_with fail
              refine (awake11 _).mono ?_
              rintro e wg ⟨rfl, hb⟩
              have BG := Lib.hid (QF.out.ob.below.trans (hb.mono QF.out.ob.below.size))
              clear hb
              go_wp2
              go_ret
              exact ⟨rfl, BG.out⟩
        · have df : (ef == 0) = false := by simpa using cf
          have df2 : (ef != 0) = true := by simpa using cf
          have NF := Lib.hid (noCharge hef cf)
          clear hef cf
          go_wp2_with fail
          refine (qb_open Q3.out id up k HEO.out).mono ?_
          rw [HL1.out]
          rintro e w4 ⟨rfl, h⟩
          have Q4 := Lib.hid h
          clear h
          go_wp2_with fail
          refine (qb_charge Q4.out id m HEF.out).mono ?_
          rw [NF.out]
          rintro e w5 ⟨rfl, h⟩
          have Q5 := Lib.hid h
          clear h
          go_wp2_with fail
          refine (qb_close Q5.out id PP1.out).mono ?_
          rw [PP2.out]
          rintro e w6 ⟨rfl, h⟩
          have Q6 := Lib.hid h
          clear h
          obtain ⟨ec, hec⟩ : ∃ ec, chargeE L up k = ec := ⟨_, rfl⟩
          have HEC := Lib.hid hec
          by_cases cc : ec = 0
          · subst cc
            obtain ⟨r1, r2⟩ := charge_back TT.out.good hec
            have RR1 := Lib.hid r1
            have RR2 := Lib.hid r2
            clear hec r1 r2
            go_wp2_with fail
            refine (qb_charge Q6.out up k HEC.out).mono ?_
            rintro e wc ⟨rfl, h⟩
            have QC := Lib.hid h
            clear h
            go_wp2_with fail
            refine (qb_refund QC.out up k RR1.out).mono ?_
            rw [RR2.out]
            rintro e wd ⟨rfl, h⟩
            have QD := Lib.hid h
            clear h
            go_wp2_with fail
            refine (ob_all QD.out.ob).mono ?_
            rintro e we ⟨ve, rfl, ho, hb⟩
            have QE := Lib.hid (QD.out.step hb)
            have NE := Lib.hid (NdsAt.of_row ho)
            clear ho hb
            go_wp2_with fail
            refine (same11 L ve vw we (Nat.le_trans TT.out.good.len (by decide)) NE.out (NdsAt.of_row QE.out.row)).mono ?_
            rintro e wf ⟨rfl, hb⟩
            have QF := Lib.hid (QE.out.step hb)
            clear hb
            go_wp2_with fail
            refine (awake11 _).mono ?_
            rintro e wg ⟨rfl, hb⟩
            have BG := Lib.hid (QF.out.ob.below.trans (hb.mono QF.out.ob.below.size))
            clear hb
            go_wp2
            go_ret
            exact ⟨rfl, BG.out⟩
          · have dc : (ec == 0) = false := by simpa using cc
            have NC := Lib.hid (noCharge hec cc)
            clear hec cc
            go_wp2_with fail
            refine (qb_charge Q6.out up k HEC.out).mono ?_
            rw [NC.out]
            rintro e wd ⟨rfl, h⟩
            have QD := Lib.hid h
            clear h
            go_wp2_with fail
            refine (ob_all QD.out.ob).mono ?_
            rintro e we ⟨ve, rfl, ho, hb⟩
            have QE := Lib.hid (QD.out.step hb)
            have NE := Lib.hid (NdsAt.of_row ho)
            clear ho hb
            go_wp2_with fail
            refine (same11 L ve vw we (Nat.le_trans TT.out.good.len (by decide)) NE.out (NdsAt.of_row QE.out.row)).mono ?_
            rintro e wf ⟨rfl, hb⟩
            have QF := Lib.hid (QE.out.step hb)
            clear hb
            go_wp2_with fail
            refine (awake11 _).mono ?_
            rintro e wg ⟨rfl, hb⟩
            have BG := Lib.hid (QF.out.ob.below.trans (hb.mono QF.out.ob.below.size))
            clear hb
            go_wp2
            go_ret
            exact ⟨rfl, BG.out⟩
      · have do1 : (eo == 0) = false := by simpa using co
        have NP := Lib.hid (noOpen heo co)
        clear heo co
        go_wp2_with fail
        refine (qb_open Q3.out id up k HEO.out).mono ?_
        rw [NP.out]
        rintro e w4 ⟨rfl, h⟩
        have Q4 := Lib.hid h
        clear h
        obtain ⟨ec, hec⟩ : ∃ ec, chargeE L up k = ec := ⟨_, rfl⟩
        have HEC := Lib.hid hec
        by_cases cc : ec = 0
        · subst cc
          obtain ⟨r1, r2⟩ := charge_back TT.out.good hec
          have RR1 := Lib.hid r1
          have RR2 := Lib.hid r2
          clear hec r1 r2
          go_wp2_with fail
          refine (qb_charge Q4.out up k HEC.out).mono ?_
          rintro e wc ⟨rfl, h⟩
          have QC := Lib.hid h
          clear h
          go_wp2_with fail
          refine (qb_refund QC.out up k RR1.out).mono ?_
          rw [RR2.out]
          rintro e wd ⟨rfl, h⟩
          have QD := Lib.hid h
          clear h
          go_wp2_with fail
          refine (ob_all QD.out.ob).mono ?_
          rintro e we ⟨ve, rfl, ho, hb⟩
          have QE := Lib.hid (QD.out.step hb)
          have NE := Lib.hid (NdsAt.of_row ho)
          clear ho hb
          go_wp2_with fail
          refine (same11 L ve vw we (Nat.le_trans TT.out.good.len (by decide)) NE.out (NdsAt.of_row QE.out.row)).mono ?_
          rintro e wf ⟨rfl, hb⟩
          have QF := Lib.hid (QE.out.step hb)
          clear hb
          go_wp2_with fail
          refine (awake11 _).mono ?_
          rintro e wg ⟨rfl, hb⟩
          have BG := Lib.hid (QF.out.ob.below.trans (hb.mono QF.out.ob.below.size))
          clear hb
          go_wp2
          go_ret
          exact ⟨rfl, BG.out⟩
        · have dc : (ec == 0) = false := by simpa using cc
          have NC := Lib.hid (noCharge hec cc)
          clear hec cc
          go_wp2_with fail
          refine (qb_charge Q4.out up k HEC.out).mono ?_
          rw [NC.out]
          rintro e wd ⟨rfl, h⟩
          have QD := Lib.hid h
          clear h
          go_wp2_with fail
          refine (ob_all QD.out.ob).mono ?_
          rintro e we ⟨ve, rfl, ho, hb⟩
          have QE := Lib.hid (QD.out.step hb)
          have NE := Lib.hid (NdsAt.of_row ho)
          clear ho hb
          go_wp2_with fail
          refine (same11 L ve vw we (Nat.le_trans TT.out.good.len (by decide)) NE.out (NdsAt.of_row QE.out.row)).mono ?_
          rintro e wf ⟨rfl, hb⟩
          have QF := Lib.hid (QE.out.step hb)
          clear hb
          go_wp2_with fail
          refine (awake11 _).mono ?_
          rintro e wg ⟨rfl, hb⟩
          have BG := Lib.hid (QF.out.ob.below.trans (hb.mono QF.out.ob.below.size))
          clear hb
          go_wp2
          go_ret
          exact ⟨rfl, BG.out⟩
theorem budgetBack_walk (q : Int) (v : Value) (S : List Op11) (id up k m : Int) (W : World) (_ : I64 q) (hv : ArgOps11 W v S) (_ : I64 id) (_ : I64 up) (_ : I64 k) (_ : I64 m) : Calls Try.prog 6 #[.int .i64 q, v, .int .i64 id, .int .i64 up, .int .i64 k, .int .i64 m] W fun e w' => e = .returned (.bool true) ∧ Below W.heap.size W w' := by
  have hv' := hv
  obtain ⟨a, c, rfl, _⟩ := hv
  cases hq : numB q with
  | false => exact back11_bad q id up k m _ c a W hq
  | true =>
    by_cases h : S.length ≤ 100
    · exact back11_in q id up k m S _ c a W rfl h hq hv'
    · exact back11_far q id up k m _ c a W hq (by omega)
end Go.Proofs.Ytedeifejokcleaa
