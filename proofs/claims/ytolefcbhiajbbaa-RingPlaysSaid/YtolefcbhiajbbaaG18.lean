/- The walk of RingPlays. Condition: the arguments are as wide as their types, the slice lies in memory. -/
import Derived.Test.YtolefcbhiajbbaaG17
import Derived.Deep.RegionHeld3
namespace Go.Proofs.Ytolefcbhiajbbaa
open Go.RowKit
set_option maxRecDepth 100000

theorem ringPlays_far (c d : Int) (n cl : Nat) (a : Option Addr) (W : World) (hn : 200 < n) : Calls Try.prog 3 #[.int .i64 c, .int .i64 d, .slice a n cl] W fun e w' => e = .returned (.bool true) ∧ Below W.heap.size W w' := by
  have d1 : decide (200 < n) = true := decide_eq_true hn
  go_enter Try.func3, Try.ntmps3
  go_wp2_with (go_at_call 8; refine (awake19 _).mono ?_; rintro e w2 ⟨rfl, hb⟩; have B := Lib.hid hb; clear hb)
  go_ret
  exact ⟨rfl, B.out⟩
set_option maxHeartbeats 1000000 in
theorem ringPlays_bad (c d : Int) (n cl : Nat) (a : Option Addr) (h : ¬ (1 ≤ c ∧ c ≤ 8 ∧ 1 ≤ d ∧ d ≤ 8)) (W : World) (hn : n ≤ 200) : Calls Try.prog 3 #[.int .i64 c, .int .i64 d, .slice a n cl] W fun e w' => e = .returned (.bool true) ∧ Below W.heap.size W w' := by
  have hz := refZero
  have hz2 := kepZero
  have d1 : decide (200 < n) = false := decide_eq_false (by omega)
  have NB := Lib.hid (new_badG c d h W)
  have RB := Lib.hid (rnewG_bad c d h W)
  have Z := fun V : World => heap_alloc_new V (.cells #[.int .i64 0, .int .i64 0, .slice none 0 0, .int .i64 0] 30)
  clear h
  go_enter Try.func3, Try.ntmps3
  go_wp2_with (go_at_call 9; refine NB.out.mono ?_; rintro e w1 ⟨rfl, rfl⟩)
  refine RB.out.mono ?_
  rintro e w2 ⟨rfl, hb⟩
  have B2 := Lib.hid hb
  clear hb
  go_wp2_with (refine wpR_store refTy rfl (.tmp 9) (.tmp 32) rfl w2.heap.size #[.int .i64 0, .int .i64 0, .slice none 0 0, .int .i64 0] rfl rfl _ (Z w2) rfl rfl (refOne 0 0 0 _ rfl) ?_)
  obtain ⟨w3, hw3⟩ : ∃ w3, w3 = ((w2.alloc (.cells #[.int .i64 0, .int .i64 0, .slice none 0 0, .int .i64 0] 30)).setRow w2.heap.size #[.int .i64 0, .int .i64 0, .slice none 0 0, .int .i64 0]).alloc (.cells (kepV zero72 false) 37) := ⟨_, rfl⟩
  have B3 : Hid (Below W.heap.size W w3) := Lib.hid (by rw [hw3]; exact (below_setRow (B2.out.alloc B2.out.size _) B2.out.size _).alloc (Nat.le_trans B2.out.size (by simp [World.setRow])) _)
  rw [← hw3]
  clear hw3
  refine wp_loop_rounds 1 ?_
  rw [rounds_succ]
  rcases Nat.eq_zero_or_pos n with h0 | h0
  · subst h0
    go_wp2_with (go_at_call 8; refine (awake19 _).mono ?_; rintro e w4 ⟨rfl, hb⟩; have B := Lib.hid (B3.out.trans (hb.mono B3.out.size)); clear hb)
    go_ret
    exact ⟨rfl, B.out⟩
  · have g0 : decide (0 < n) = true := decide_eq_true h0
    go_wp2_with (go_at_call 8; refine (awake19 _).mono ?_; rintro e w4 ⟨rfl, hb⟩; have B := Lib.hid (B3.out.trans (hb.mono B3.out.size)); clear hb)
    go_ret
    exact ⟨rfl, B.out⟩
/-- What the loop keeps. -/
def PlaysG (W : World) (b kb rb c d k : Nat) (wr : World) : Prop := ∃ f m out g lv Ls, PlG W wr b kb rb c d f m out g lv Ls ∧ Ls.length = m ∧ m ≤ c ∧ out % c = f ∧ out ≤ k ∧ LieG c d out g Ls
set_option maxHeartbeats 2000000 in
theorem ringPlays_ok (c d : Nat) (cl : Nat) (a : Option Addr) (O : List (Int × List Int)) (hc : 1 ≤ c ∧ c ≤ 8) (hd : 1 ≤ d ∧ d ≤ 8) (W : World) (hO : ArgOps19 W (.slice a O.length cl) O) (hn : O.length ≤ 200) :
    Calls Try.prog 3 #[.int .i64 (c : Int), .int .i64 (d : Int), .slice a O.length cl] W fun e w' => e = .returned (.bool true) ∧ Below W.heap.size W w' := by
  have hz := kepZero
  have hz2 := refZero
  have hmf : ∀ (fn : Fn) (first cap : Array Value) (w : World), (Instr.makeFunc fn first cap).run Try.prog w = .ok (.func fn first cap) w := fun _ _ _ _ => rfl
  have NW := Lib.hid (LawG.new (Below.refl W.heap.size W) c d hc hd)
  have NR := Lib.hid (fun V => rnewG_ok c d hc hd V)
  have HO := Lib.hid fun (i : Nat) => hO.at_ (i := i)
  have HC := Lib.hid hc
  have HD := Lib.hid hd
  have c8 := hc.2
  have d8 := hd.2
  have Z := fun V : World => heap_alloc_new V (.cells #[.int .i64 0, .int .i64 0, .slice none 0 0, .int .i64 0] 30)
  obtain ⟨n, hnn⟩ : ∃ n, n = O.length := ⟨_, rfl⟩
  rw [← hnn] at HO hn ⊢
  have d1 : decide (200 < n) = false := decide_eq_false (by omega)
  have d1' : decide (200 < (n : Int)) = false := decide_eq_false (by omega)
  obtain ⟨wn, hwn⟩ : ∃ wn, wn = wdsG c d := ⟨_, rfl⟩
  have wn72 : wn ≤ 72 := by rw [hwn]; exact wdsG_le c8 d8
  have wm : (c : Int) * ((d : Int) + 1) = (wn : Int) := by rw [hwn]; unfold wdsG; push_cast; rfl
  have HWN := Lib.hid hwn
  clear hc hd hO hnn hwn
  go_enter Try.func3, Try.ntmps3
  go_wp2_with fail
  refine NW.out.mono ?_
  rintro e w1 ⟨b, rfl, h0, hlt, -, hr, hb⟩
  have R1 := Lib.hid hr
  have B1 := Lib.hid hb
  have BL := Lib.hid hlt
  clear hr hb hlt
  go_wp2_with fail
  refine (NR.out w1).mono ?_
  rintro e w2 ⟨rfl, hb⟩
  have B2 := Lib.hid hb
  clear hb
  go_wp2_with (refine wpR_store refTy rfl (.tmp 9) (.tmp 32) rfl w2.heap.size (refA c d 0 (.slice none 0 0)) rfl rfl _ (Z w2) rfl rfl (refOne c d 0 _ rfl) ?_)
  obtain ⟨rb, hrb⟩ : ∃ rb, rb = w2.heap.size := ⟨_, rfl⟩
  obtain ⟨w3, hw3⟩ : ∃ w3, w3 = (w2.alloc (.cells #[.int .i64 0, .int .i64 0, .slice none 0 0, .int .i64 0] 30)).setRow w2.heap.size (refA c d 0 (.slice none 0 0)) := ⟨_, rfl⟩
  have x3 : w3.heap[rb]? = some (.cells (refA c d 0 (.slice none 0 0)) 30 (0, 0)) := by rw [hw3, hrb]; exact setRow_heap _ _ _ _ _ _ (Z w2)
  have s3 : w3.heap.size = rb + 1 := by rw [hw3, hrb]; simp [World.setRow]
  have b3 : Below w1.heap.size w1 w3 := by rw [hw3]; exact below_setRow (B2.out.alloc B2.out.size _) B2.out.size _
  have B3 := b3.mono B1.out.size |> fun h => B1.out.trans h
  obtain ⟨w4, hw4⟩ : ∃ w4, w4 = w3.alloc (.cells (kepV zero72 false) 37) := ⟨_, rfl⟩
  have b4 : Below w3.heap.size w3 w4 := by rw [hw4]; exact below_step1 _ _
  have hrw : w1.heap.size ≤ rb := by rw [hrb]; exact B2.out.size
  have P0 : Hid (PlG W w4 b (rb + 1) rb c d 0 0 0 (fun _ => 0) (.slice none 0 0) []) := Lib.hid ⟨by
    have := LawG.start (R1.out.below b3) B3 h0
    rwa [s3, ← hw4] at this, ⟨HC.out.1, c8, d8, Nat.zero_le _, by decide, LsAt.nil _, below_block b4 x3⟩, Nat.le_trans B1.out.size hrw, by have := BL.out; omega, by omega⟩
  rw [← hw3, ← hw4, ← hrb]
  obtain ⟨kb, hkb⟩ : ∃ kb, kb = rb + 1 := ⟨_, rfl⟩
  rw [← hkb] at P0 ⊢
  clear hrb hw3 x3 s3 b3 B3 hw4 b4 hrw hkb
  go_loopw [12] (fun i wr => ∃ k : Nat, i = .int .i64 (k : Int) ∧ k ≤ n ∧ PlaysG W b kb rb c d k wr) (fun i _ => (n - (intOf i).toNat))
  case atStart => exact ⟨0, rfl, Nat.zero_le _, 0, 0, 0, _, _, _, P0.out, rfl, Nat.zero_le _, Nat.zero_mod _, Nat.le_refl _, fun i hi => by simp at hi⟩
  case round =>
    obtain ⟨k, rfl, hk, f, m, out, g, lv, Ls, hp, r1, r2, r3, r4, r5⟩ := hrel
    have PP := Lib.hid hp
    have RL := Lib.hid (And.intro r1 (And.intro r2 (And.intro r3 r5)))
    clear hp r1 r2 r3 r5
    by_cases hlt : k < n
    · obtain ⟨ob, oo, ia, ic, rfl, h64, hw, hcell⟩ := HO.out k hlt
      obtain ⟨x0, x1, hrow⟩ := hcell wr PP.out.law.bel
      have CX := Lib.hid fun V (hV : Below W.heap.size W V) => (hcell V hV).2.2
      have HWD := Lib.hid hw
      obtain ⟨D, hD⟩ : ∃ D, D = (O.getD k default).1 := ⟨_, rfl⟩
      obtain ⟨L, hL⟩ : ∃ L, L = (O.getD k default).2 := ⟨_, rfl⟩
      obtain ⟨q, hq⟩ : ∃ q, q = L.length := ⟨_, rfl⟩
      rw [← hL] at x1 CX HWD
      rw [← hD] at x0 h64
      rw [← hq] at x1 CX
      have HQ := Lib.hid hq
      clear hw hcell hD hL hq hrow
      have b5 := below_step1 wr (.cells #[.int .i64 D, .slice ia q ic] 40)
      have X5 : Hid ((wr.alloc (.cells #[.int .i64 D, .slice ia q ic] 40)).heap[wr.heap.size]? = some (.cells #[.int .i64 D, .slice ia q ic] 40 (0, 0))) := Lib.hid (heap_alloc_new _ _)
      have P5 := Lib.hid (PP.out.step b5)
      have bx1 : Hid (wr.heap.size ≠ b ∧ wr.heap.size ≠ kb ∧ wr.heap.size ≠ rb) := Lib.hid ⟨by have := PP.out.law.r.lt; omega, by have := PP.out.law.k.lt; omega, by have := lt_of_block PP.out.ref.box; omega⟩
      clear b5
      by_cases hq100 : 100 < q
      · have e1 : decide (100 < q) = true := decide_eq_true hq100
        go_wp2_with (go_at_call 8; refine (awake19 _).mono ?_; rintro e w8 ⟨rfl, hb⟩; have B8 := Lib.hid (P5.out.law.bel.trans (hb.mono P5.out.law.bel.size)); clear hb)
        go_ret
        exact ⟨rfl, B8.out⟩
      have e1 : decide (100 < q) = false := decide_eq_false hq100
      by_cases hD1 : D = 1
      · subst hD1
        obtain ⟨er, m1, g1, Ls1, hS, hR, RE⟩ := send_both W (b := b) (kb := kb) (rb := rb) (d := d) c8 RL.out.1 RL.out.2.1 RL.out.2.2.1 RL.out.2.2.2 L ia ic HWD.out
        rw [← HQ.out] at hS hR
        have SS := Lib.hid hS
        have SD := Lib.hid hR
        have R3 := Lib.hid (And.intro RE.1 (And.intro RE.2.1 (And.intro RL.out.2.2.1 RE.2.2)))
        have en : (er != er) = false := by simp
        clear hS hR RE
        go_wp2_with fail
        have RW := Lib.hid fun V (hV : Below W.heap.size W V) => CX.out V hV
        have y5 : (wr.alloc (.cells #[.int .i64 1, .slice ia q ic] 40)).cell? ⟨wr.heap.size, 1, none⟩ = some (.slice ia q ic) := by rw [cell_of_row _ _ _ _ _ _ X5.out]; rfl
        have D5 := Lib.hid (P5.out.step (Below.refl _ _).drew)
        have X5d : Hid ((wr.alloc (.cells #[.int .i64 1, .slice ia q ic] 40)).drew.heap[wr.heap.size]? = some (.cells #[.int .i64 1, .slice ia q ic] 40 (0, 0))) := Lib.hid X5.out
        clear x0 x1
        go_region_held3 (fun U => U.cell? ⟨wr.heap.size, 1, none⟩ = some (.slice ia q ic)) (first | exact y5 | assumption)
          (first
            | (go_at_call 11; refine (SS.out _ D5.out.law (RW.out _ D5.out.law.bel)).mono ?_; rintro e u1 ⟨rfl, hl, ho⟩; have x6 := ho.kept X5d.out (fun e => e.elim bx1.out.1 bx1.out.2.1); have X6 := Lib.hid x6; have y6 : u1.cell? ⟨wr.heap.size, 1, none⟩ = some (.slice ia q ic) := (by rw [cell_of_row _ _ _ _ _ _ x6]; rfl); have P6 := Lib.hid (D5.out.ring hl ho); clear hl ho x6)
            | (go_at_call 13; refine (SD.out _ _ P6.out.ref (RW.out _ P6.out.law.bel)).mono ?_; rintro e V ⟨lv', rfl, hr, ho⟩; have x7 := ho.kept X6.out bx1.out.2.2; have y7 : V.cell? ⟨wr.heap.size, 1, none⟩ = some (.slice ia q ic) := (by rw [cell_of_row _ _ _ _ _ _ x7]; rfl); have PE := Lib.hid (P6.out.doc hr ho); clear hr ho x7))
        go_wp2_with fail
        obtain ⟨out1, ho1⟩ : ∃ out1, out1 = out := ⟨_, rfl⟩
        rw [← ho1] at PE R3 r4
        have RE := R3
        clear P5 RL PP ho1 D5 P6 X5 X5d X6 y5 y6 y7 SS SD R3
        have wd1 : IntKind.i64.wrap ((d : Int) + 1) = (d : Int) + 1 := IntWalk.i64_in _ (by omega)
        have wm1 : IntKind.i64.wrap ((c : Int) * ((d : Int) + 1)) = (wn : Int) := by rw [wm]; exact IntWalk.i64_in _ (by omega)
        have wm2 : IntKind.i64.wrap (wn : Int) = (wn : Int) := IntWalk.i64_in _ (by omega)
        obtain ⟨la, lc, hlv⟩ := PE.out.ref.ls.form
        rw [RE.out.1] at hlv
        subst hlv
        have SC : Hid (∀ U, Below V.heap.size V U → U.cell? ⟨rb, 0, none⟩ = some (.int .i64 (c : Int)) ∧ U.cell? ⟨rb, 1, none⟩ = some (.int .i64 (d : Int)) ∧ U.cell? ⟨rb, 2, none⟩ = some (.slice la m1 lc) ∧ U.cell? ⟨rb, 3, none⟩ = some (.int .i64 (out1 : Int)) ∧ U.cell? ⟨kb, 72, none⟩ = some (.bool false)) := Lib.hid fun U hU => by
          have h := PE.out.step hU
          exact ⟨h.ref.cap, h.ref.wid, h.ref.lst, h.ref.outs, h.law.k.bad⟩
        have LN := Lib.hid fun U (hU : Below V.heap.size V U) => len_okG (PE.out.step hU).law.r
        have WO := Lib.hid fun U (hU : Below V.heap.size V U) => by
          have := words_okG (PE.out.step hU).law.r
          rwa [← HWN.out] at this
        have LI := Lib.hid fun U (hU : Below V.heap.size V U) => lies_okG (PE.out.step hU).law.k (PE.out.step hU).law.r (PE.out.step hU).ref.ls RE.out.1 RE.out.2.2.1 (by omega) RE.out.2.2.2
        unfold refA at LI
        go_region_held3 (fun U => U.cell? ⟨rb, 0, none⟩ = some (.int .i64 (c : Int)) ∧ U.cell? ⟨rb, 1, none⟩ = some (.int .i64 (d : Int)) ∧ U.cell? ⟨rb, 2, none⟩ = some (.slice la m1 lc) ∧ U.cell? ⟨rb, 3, none⟩ = some (.int .i64 (out1 : Int)) ∧ U.cell? ⟨kb, 72, none⟩ = some (.bool false)) (first | exact SC.out _ (by assumption) | exact SC.out _ (Below.refl _ _).drew)
          (first
            | (go_at_call 18; refine (LN.out _ (Below.refl _ _).drew).mono ?_; rintro e u1 ⟨rfl, rfl⟩)
            | (go_at_call 19; refine (WO.out _ (Below.refl _ _).drew).mono ?_; rintro e y2 ⟨rfl, qq, hqq⟩; have B2 : Below V.heap.size V y2 := (by rw [hqq]; exact below_drewN (Below.refl _ _).drew qq); clear hqq)
            | (go_at_call 20; refine (LI.out y2 B2).mono ?_; rintro e y3 ⟨rfl, hb3⟩; have B3 : Below V.heap.size V y3 := B2.trans (hb3.mono B2.size); clear hb3))
        go_wp2
        go_roundw
        case rel => exact ⟨k + 1, by go_num, by omega, _, m1, out1, _, _, _, PE.out.step B3, RE.out.1, RE.out.2.1, RE.out.2.2.1, by omega, RE.out.2.2.2⟩
        case measure => simp [intOf]; omega
      by_cases hD2 : D = 2
      · subst hD2
        obtain ⟨M, er, f1, m1, out1, Ls1, hM, hS, hR, RE⟩ := recv_both W (b := b) (kb := kb) (rb := rb) RL.out.1 RL.out.2.1 RL.out.2.2.1 (by omega) RL.out.2.2.2
        have SS := Lib.hid hS
        have SD := Lib.hid hR
        have R3 := Lib.hid (And.intro RE.1 (And.intro RE.2.1 (And.intro RE.2.2.1 RE.2.2.2.2)))
        have ro1 := RE.2.2.2.1
        have en : (er != er) = false := by simp
        have HMM := Lib.hid hM
        clear hS hR RE hM
        go_wp2_with fail
        refine (SS.out _ P5.out.law).mono ?_
        rintro e u1 ⟨u, rfl, hm1, hl, ho⟩
        have P6 := Lib.hid (P5.out.ring hl ho)
        have M6 := Lib.hid hm1
        obtain ⟨ua, uc, rfl⟩ := hm1.form
        clear hm1 hl ho
        go_wp2_with fail
        refine (SD.out _ _ P6.out.ref).mono ?_
        rintro e u2 ⟨v2, lv2, rfl, hm2, hr, ho⟩
        have P7 := Lib.hid (P6.out.doc hr ho)
        have SA := Lib.hid (same_yes _ _ M u2 (by have := HMM.out; omega) (M6.out.only ho (fun _ e => e ▸ P6.out.ref.other)).row hm2.row)
        obtain ⟨va, vc, rfl⟩ := hm2.form
        clear hm2 hr ho
        go_wp2_with (go_at_call 17; refine SA.out.mono ?_; rintro e V ⟨rfl, hb⟩; have PE := Lib.hid (P7.out.step hb); clear hb)
        have RE := R3
        clear P5 RL PP P6 P7 X5 x0 x1 SS SD R3 SA M6
        have wd1 : IntKind.i64.wrap ((d : Int) + 1) = (d : Int) + 1 := IntWalk.i64_in _ (by omega)
        have wm1 : IntKind.i64.wrap ((c : Int) * ((d : Int) + 1)) = (wn : Int) := by rw [wm]; exact IntWalk.i64_in _ (by omega)
        have wm2 : IntKind.i64.wrap (wn : Int) = (wn : Int) := IntWalk.i64_in _ (by omega)
        obtain ⟨la, lc, hlv⟩ := PE.out.ref.ls.form
        rw [RE.out.1] at hlv
        subst hlv
        have SC : Hid (∀ U, Below V.heap.size V U → U.cell? ⟨rb, 0, none⟩ = some (.int .i64 (c : Int)) ∧ U.cell? ⟨rb, 1, none⟩ = some (.int .i64 (d : Int)) ∧ U.cell? ⟨rb, 2, none⟩ = some (.slice la m1 lc) ∧ U.cell? ⟨rb, 3, none⟩ = some (.int .i64 (out1 : Int)) ∧ U.cell? ⟨kb, 72, none⟩ = some (.bool false)) := Lib.hid fun U hU => by
          have h := PE.out.step hU
          exact ⟨h.ref.cap, h.ref.wid, h.ref.lst, h.ref.outs, h.law.k.bad⟩
        have LN := Lib.hid fun U (hU : Below V.heap.size V U) => len_okG (PE.out.step hU).law.r
        have WO := Lib.hid fun U (hU : Below V.heap.size V U) => by
          have := words_okG (PE.out.step hU).law.r
          rwa [← HWN.out] at this
        have LI := Lib.hid fun U (hU : Below V.heap.size V U) => lies_okG (PE.out.step hU).law.k (PE.out.step hU).law.r (PE.out.step hU).ref.ls RE.out.1 RE.out.2.2.1 (by omega) RE.out.2.2.2
        unfold refA at LI
        go_region_held3 (fun U => U.cell? ⟨rb, 0, none⟩ = some (.int .i64 (c : Int)) ∧ U.cell? ⟨rb, 1, none⟩ = some (.int .i64 (d : Int)) ∧ U.cell? ⟨rb, 2, none⟩ = some (.slice la m1 lc) ∧ U.cell? ⟨rb, 3, none⟩ = some (.int .i64 (out1 : Int)) ∧ U.cell? ⟨kb, 72, none⟩ = some (.bool false)) (first | exact SC.out _ (by assumption) | exact SC.out _ (Below.refl _ _).drew)
          (first
            | (go_at_call 18; refine (LN.out _ (Below.refl _ _).drew).mono ?_; rintro e u1 ⟨rfl, rfl⟩)
            | (go_at_call 19; refine (WO.out _ (Below.refl _ _).drew).mono ?_; rintro e y2 ⟨rfl, qq, hqq⟩; have B2 : Below V.heap.size V y2 := (by rw [hqq]; exact below_drewN (Below.refl _ _).drew qq); clear hqq)
            | (go_at_call 20; refine (LI.out y2 B2).mono ?_; rintro e y3 ⟨rfl, hb3⟩; have B3 : Below V.heap.size V y3 := B2.trans (hb3.mono B2.size); clear hb3))
        go_wp2
        go_roundw
        case rel => exact ⟨k + 1, by go_num, by omega, _, m1, out1, _, _, _, PE.out.step B3, RE.out.1, RE.out.2.1, RE.out.2.2.1, by omega, RE.out.2.2.2⟩
        case measure => simp [intOf]; omega
      · have g1 : (D == 1) = false := by simp [hD1]
        have g2 : (D == 2) = false := by simp [hD2]
        go_wp2_with fail
        obtain ⟨V, hV⟩ : ∃ V, V = wr.alloc (.cells #[.int .i64 D, .slice ia q ic] 40) := ⟨_, rfl⟩
        rw [← hV] at P5 ⊢
        clear hV X5 x0 x1
        obtain ⟨m1, hm1⟩ : ∃ m1, m1 = m := ⟨_, rfl⟩
        obtain ⟨out1, ho1⟩ : ∃ out1, out1 = out := ⟨_, rfl⟩
        rw [← hm1, ← ho1] at P5 RL
        rw [← ho1] at r4
        have PE := P5
        have RE := RL
        clear P5 RL PP hm1 ho1
        have wd1 : IntKind.i64.wrap ((d : Int) + 1) = (d : Int) + 1 := IntWalk.i64_in _ (by omega)
        have wm1 : IntKind.i64.wrap ((c : Int) * ((d : Int) + 1)) = (wn : Int) := by rw [wm]; exact IntWalk.i64_in _ (by omega)
        have wm2 : IntKind.i64.wrap (wn : Int) = (wn : Int) := IntWalk.i64_in _ (by omega)
        obtain ⟨la, lc, hlv⟩ := PE.out.ref.ls.form
        rw [RE.out.1] at hlv
        subst hlv
        have SC : Hid (∀ U, Below V.heap.size V U → U.cell? ⟨rb, 0, none⟩ = some (.int .i64 (c : Int)) ∧ U.cell? ⟨rb, 1, none⟩ = some (.int .i64 (d : Int)) ∧ U.cell? ⟨rb, 2, none⟩ = some (.slice la m1 lc) ∧ U.cell? ⟨rb, 3, none⟩ = some (.int .i64 (out1 : Int)) ∧ U.cell? ⟨kb, 72, none⟩ = some (.bool false)) := Lib.hid fun U hU => by
          have h := PE.out.step hU
          exact ⟨h.ref.cap, h.ref.wid, h.ref.lst, h.ref.outs, h.law.k.bad⟩
        have LN := Lib.hid fun U (hU : Below V.heap.size V U) => len_okG (PE.out.step hU).law.r
        have WO := Lib.hid fun U (hU : Below V.heap.size V U) => by
          have := words_okG (PE.out.step hU).law.r
          rwa [← HWN.out] at this
        have LI := Lib.hid fun U (hU : Below V.heap.size V U) => lies_okG (PE.out.step hU).law.k (PE.out.step hU).law.r (PE.out.step hU).ref.ls RE.out.1 RE.out.2.2.1 (by omega) RE.out.2.2.2
        unfold refA at LI
        go_region_held3 (fun U => U.cell? ⟨rb, 0, none⟩ = some (.int .i64 (c : Int)) ∧ U.cell? ⟨rb, 1, none⟩ = some (.int .i64 (d : Int)) ∧ U.cell? ⟨rb, 2, none⟩ = some (.slice la m1 lc) ∧ U.cell? ⟨rb, 3, none⟩ = some (.int .i64 (out1 : Int)) ∧ U.cell? ⟨kb, 72, none⟩ = some (.bool false)) (first | exact SC.out _ (by assumption) | exact SC.out _ (Below.refl _ _).drew)
          (first
            | (go_at_call 18; refine (LN.out _ (Below.refl _ _).drew).mono ?_; rintro e u1 ⟨rfl, rfl⟩)
            | (go_at_call 19; refine (WO.out _ (Below.refl _ _).drew).mono ?_; rintro e y2 ⟨rfl, qq, hqq⟩; have B2 : Below V.heap.size V y2 := (by rw [hqq]; exact below_drewN (Below.refl _ _).drew qq); clear hqq)
            | (go_at_call 20; refine (LI.out y2 B2).mono ?_; rintro e y3 ⟨rfl, hb3⟩; have B3 : Below V.heap.size V y3 := B2.trans (hb3.mono B2.size); clear hb3))
        go_wp2
        go_roundw
        case rel => exact ⟨k + 1, by go_num, by omega, _, m1, out1, _, _, _, PE.out.step B3, RE.out.1, RE.out.2.1, RE.out.2.2.1, by omega, RE.out.2.2.2⟩
        case measure => simp [intOf]; omega
    · obtain rfl : k = n := by omega
      go_wp2_with (go_at_call 8; refine (awake19 _).mono ?_; rintro e w8 ⟨rfl, hb⟩; have B8 := Lib.hid (PP.out.law.bel.trans (hb.mono PP.out.law.bel.size)); clear hb)
      go_ret
      exact ⟨rfl, B8.out⟩
theorem ringPlays_walk (c d : Int) (v : Value) (O : List (Int × List Int)) (W : World) (_hc : -9223372036854775808 ≤ c ∧ c ≤ 9223372036854775807) (_hd : -9223372036854775808 ≤ d ∧ d ≤ 9223372036854775807) (h : ArgOps19 W v O) : Calls Try.prog 3 #[.int .i64 c, .int .i64 d, v] W fun e w' => e = .returned (.bool true) ∧ Below W.heap.size W w' := by
  have h' := h
  obtain ⟨a, cl, rfl, _⟩ := h
  by_cases hn : O.length ≤ 200
  · by_cases h : 1 ≤ c ∧ c ≤ 8 ∧ 1 ≤ d ∧ d ≤ 8
    · obtain ⟨c', rfl⟩ : ∃ c' : Nat, c = (c' : Int) := ⟨c.toNat, by omega⟩
      obtain ⟨d', rfl⟩ : ∃ d' : Nat, d = (d' : Int) := ⟨d.toNat, by omega⟩
      exact ringPlays_ok c' d' cl a O (by omega) (by omega) W h' hn
    · exact ringPlays_bad c d O.length cl a h W hn
  · exact ringPlays_far c d O.length cl a W (by omega)
end Go.Proofs.Ytolefcbhiajbbaa
