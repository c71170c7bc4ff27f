/- The walk of ChansPlays, where channels are made. Conditions: the configuration and the script lie as they came in. Written by gen/gen_h36.py. -/
import Derived.Test.YtnapodeiigkebaaH35
import Derived.Deep.CutRange
namespace Go.Proofs.Ytnapodeiigkebaa
open Go.RowKit
set_option maxRecDepth 100000

/-- What is held may be said more sharply from some operation on. -/
theorem anyH_mono {P : Program} {md : Region.Mode} {ops : Array Oper} {Q : Exit → Act → World → Prop} {S S' : World → Prop} (h : ∀ w, S' w → S w) : ∀ (fuel : Nat) (listed : Array Bool) (a : Act) (w : World), wpAnyH P md ops Q S' fuel listed a w → wpAnyH P md ops Q S fuel listed a w
  | 0, _, _, _, H => H
  | fuel + 1, _, _, _, H => ⟨H.1, fun i hi => wpOp_mono (fun _ w' h3 => ⟨h w' h3.1, anyH_mono h fuel _ _ _ h3.2⟩) (H.2 i hi)⟩
theorem ops_cells {V : World} {ob : Nat} {od op oc : Int} {u : Value} (h : V.heap[ob]? = some (.cells #[.int .i64 od, .int .i64 op, .int .i64 oc, u] 45 (0, 0))) : V.cell? ⟨ob, 0, none⟩ = some (.int .i64 od) ∧ V.cell? ⟨ob, 1, none⟩ = some (.int .i64 op) ∧ V.cell? ⟨ob, 2, none⟩ = some (.int .i64 oc) ∧ V.cell? ⟨ob, 3, none⟩ = some u := by
  obtain ⟨k0, k1, k2, k3, -⟩ := box4 h; exact ⟨k0, k1, k2, k3⟩
theorem pair_cells20 {V : World} {rb : Nat} {a b : Value} {t : TypeId} (h : V.heap[rb]? = some (.cells #[a, b] t (0, 0))) : V.cell? ⟨rb, 0, none⟩ = some a ∧ V.cell? ⟨rb, 1, none⟩ = some b :=
  ⟨(cell_of_row _ _ _ _ _ _ h).trans rfl, (cell_of_row _ _ _ _ _ _ h).trans rfl⟩
/-- A channel's words in the configuration, or 0. -/
theorem words_way {W : World} {v1 v2 : Value} {aa : Option Addr} {cc : Nat} {C : Cf} (CF : CfAt W v1 v2 (.slice aa C.2.2.length cc) C) (hk : chk C = 0) (oc : Int) :
    (∃ (i cb co d : Nat), oc = (i : Int) ∧ i < C.2.2.length ∧ aa = some ⟨cb, co, none⟩ ∧ wordsN C.2.2 oc = (d : Int) ∧ ∀ V, Below W.heap.size W V → V.cell? ⟨cb, co + i * 4 + 3, none⟩ = some (.int .i64 (d : Int))) ∨ (wordsN C.2.2 oc = 0 ∧ (oc < 0 ∨ 0 ≤ oc ∧ (C.2.2.length : Int) ≤ oc)) := by
  by_cases h : inH C.2.2 oc
  · left
    obtain ⟨i, rfl, hi⟩ := inH_nat h
    obtain ⟨cb, co, cc', a, b, c, d, he, hT, -, -, -, hr⟩ := chanH_cells CF hk i hi
    obtain ⟨rfl, -, -⟩ := Value.slice.inj he
    refine ⟨i, cb, co, d, rfl, hi, rfl, ?_, fun V hV => (hr V hV).2.2.2⟩
    unfold wordsN
    rw [if_pos h, atH_nat, hT]
    rfl
  · right
    unfold wordsN
    rw [if_neg h]
    unfold inH at h
    exact ⟨rfl, by omega⟩
set_option maxHeartbeats 16000000 in
theorem plays_in {v1 v2 v3 : Value} {C : Cf} {W : World} (CF : CfAt W v1 v2 v3 C) (hl : ¬ longC C) (hk : chk C = 0) (N : Nat) (h0 : 1 ≤ N) (h1 : N ≤ 1024) (hf : framesC C ≤ (N : Int)) (v : Value) (S : List Op20) (hS : ArgOps20 W v S) (hS100 : S.length ≤ 100) :
    Calls Try.prog 3 #[.agg #[v1, v2, v3], .int .i64 (N : Int), v] W fun e w' => e = .returned (.bool true) ∧ Below W.heap.size W w' := by
  obtain ⟨la, lc, rfl, hI, hS2⟩ := hS
  obtain ⟨aa, cc, rfl, -⟩ := CF.hs
  have SL := Lib.hid fun (j : Nat) (hj : j < S.length) => show ∃ lb lo u, la = some ⟨lb, lo, none⟩ ∧ (∀ V, Below W.heap.size W V → V.cell? ⟨lb, lo + j * 4, none⟩ = some (.int .i64 (S.getD j default).1) ∧ V.cell? ⟨lb, lo + j * 4 + 1, none⟩ = some (.int .i64 (S.getD j default).2.1) ∧ V.cell? ⟨lb, lo + j * 4 + 2, none⟩ = some (.int .i64 (S.getD j default).2.2.1) ∧ V.cell? ⟨lb, lo + j * 4 + 3, none⟩ = some u) ∧ ArgMs W u (S.getD j default).2.2.2 from by
    obtain ⟨lb, lo, rfl, hlt, hc⟩ := hS2.resolve_left (by rintro rfl; simp at hj)
    obtain ⟨u, h0, h1, h2, h3, h4⟩ := hc j hj
    exact ⟨lb, lo, u, rfl, fun V hV => ⟨(hV.cell (p := ⟨lb, lo + j * 4, none⟩) hlt).trans h0, (hV.cell (p := ⟨lb, lo + j * 4 + 1, none⟩) hlt).trans h1, (hV.cell (p := ⟨lb, lo + j * 4 + 2, none⟩) hlt).trans h2, (hV.cell (p := ⟨lb, lo + j * 4 + 3, none⟩) hlt).trans h3⟩, h4⟩
  have V1 := Lib.hid (CvH.new CF)
  have fa : framesA C = framesC C := by unfold framesA; rw [if_pos (chk_zero hk).1]
  have LA := Lib.hid fun V (h : CvH W V v1 v2 (.slice aa C.2.2.length cc) C) => long20_no _ _ _ C V h.conf hl
  have KA := Lib.hid fun V (h : CvH W V v1 v2 (.slice aa C.2.2.length cc) C) => rcheck_ok _ _ _ C V h.conf
  have FA := Lib.hid fun V (h : CvH W V v1 v2 (.slice aa C.2.2.length cc) C) => rframes_ok _ _ _ C V h.conf
  rw [hk] at KA
  rw [fa] at FA
  have NM := Lib.hid fun V => new_ok N V h0 h1
  have NW := Lib.hid fun V mp fb (hM : OwnMem W V mp fb N (List.replicate (N * 32) 0)) (h : CvH W V v1 v2 (.slice aa C.2.2.length cc) C) => newH_ok hM.st (zeros_wd _) h.conf hk hf
  have RN := Lib.hid fun V (hV : Below W.heap.size W V) => rnewH20_ok CF hk hV
  have WY := Lib.hid fun oc => words_way CF hk oc
  have CFh := Lib.hid CF
  generalize hfr : framesC C = fr at FA hf
  have g0 : decide ((N : Int) < fr) = false := decide_eq_false (by omega)
  obtain ⟨ns, hns⟩ : ∃ ns, ns = S.length := ⟨_, rfl⟩
  obtain ⟨n, hn⟩ : ∃ n, n = C.2.2.length := ⟨_, rfl⟩
  have HN := Lib.hid hn
  rw [← hns] at hS100 SL ⊢
  rw [← hn] at V1 LA KA FA NW RN WY CFh ⊢
  have d3 : decide (100 < ns) = false := decide_eq_false (by omega)
  clear CF hl hk fa hfr hf hS2 hns hI hn
  go_enter Try.func3, Try.ntmps3
  go_wp2_with fail
  refine (LA.out _ V1.out).mono ?_
  rintro e w2 ⟨rfl, hb⟩
  have V2 := Lib.hid (V1.out.step hb)
  clear hb
  go_wp2_with fail
  refine (NM.out _).mono ?_
  intro e w3 hp
  obtain ⟨mp, fb, rfl, hm⟩ := OwnMem.new hp
  have V3 := Lib.hid (V2.out.step hm.below)
  have M3 := Lib.hid (OwnMem.late V2.out.below hm)
  have x0 := V3.out.box.c0
  have x1 := V3.out.box.c1
  have x2 := V3.out.box.c2
  clear hm hp
  go_wp2_with fail
  refine (NW.out _ _ _ M3.out V3.out).mono ?_
  rintro e w4 ⟨X, rfl, hX⟩
  have HX : Hid (X.H = C.2.2) := Lib.hid hX.2.1
  have O4 := Lib.hid (OwnH.made M3.out hX)
  have V4 := Lib.hid (V3.out.step hX.2.2.2.2.2.2.2.2.2)
  have x0 := V4.out.box.c0
  have x1 := V4.out.box.c1
  have x2 := V4.out.box.c2
  obtain ⟨xb, hxb⟩ : ∃ xb, xb = X.xb := ⟨_, rfl⟩
  have XB := Lib.hid hxb
  rw [← hxb]
  clear hX hxb
  go_wp2_with fail
  refine (KA.out _ V4.out).mono ?_
  rintro e w5 ⟨rfl, hb⟩
  have V5 := Lib.hid (V4.out.step hb)
  have O5 := Lib.hid (O4.out.step hb)
  have x0 := V5.out.box.c0
  have x1 := V5.out.box.c1
  have x2 := V5.out.box.c2
  clear hb
  go_wp2_with fail
  refine (FA.out _ V5.out).mono ?_
  rintro e w6 ⟨rfl, hb⟩
  have V6 := Lib.hid (V5.out.step hb)
  have O6 := Lib.hid (O5.out.step hb)
  have x0 := V6.out.box.c0
  have x1 := V6.out.box.c1
  have x2 := V6.out.box.c2
  clear hb
  go_wp2_with fail
  refine (RN.out _ V6.out.below).mono ?_
  rintro e w7 ⟨lv, rfl, hr, hb⟩
  have P7 := Lib.hid (PySt.start O6.out V6.out.box CFh.out hr hb)
  obtain ⟨ka, kc, rfl⟩ := hr.lslice
  rw [← HN.out] at P7 ⊢
  obtain ⟨w8, hw8⟩ : ∃ w8, w8 = w7.alloc (.cells #[.slice aa n cc, .slice ka n kc] 41) := ⟨_, rfl⟩
  obtain ⟨rb, hrb⟩ : ∃ rb, rb = w7.heap.size := ⟨_, rfl⟩
  rw [← hw8, ← hrb] at P7
  have HW8 := Lib.hid hw8
  have HRB := Lib.hid hrb
  clear hr hb hw8 hrb x0 x1 x2 V1 V2 V3 V4 V5 V6 M3 O4 O5 O6 LA KA FA NM NW RN
  go_wp2_with fail
  rw [← HW8.out, ← HRB.out]
  clear HW8 HRB
  go_loopw [13] (fun q wr => ∃ (t T : Nat) (Q : Msgs), q = .int .i64 (t : Int) ∧ t ≤ ns ∧ T ≤ t ∧ PySt W wr v1 v2 (.slice aa n cc) C X rb T Q) (fun q _ => (ns - (intOf q).toNat))
  case atStart => exact ⟨0, 0, _, rfl, Nat.zero_le _, Nat.le_refl _, P7.out⟩
  case round =>
    obtain ⟨t, T, Q, rfl, ht, hT, h⟩ := hrel
    have AT := Lib.hid h
    clear h P7
    by_cases hlt2 : t < ns
    · obtain ⟨lb, lo, u, rfl, hcell, hu⟩ := SL.out t hlt2
      generalize S.getD t default = o at hcell hu
      obtain ⟨od, op, oc, M⟩ := o
      simp only at hcell hu
      obtain ⟨ua, uc, rfl, -, -, -, hw, hrow⟩ := hu
      obtain ⟨c0, c1, c2, c3⟩ := hcell _ AT.out.below
      have HU : Hid (RowAt W (.slice ua M.length uc) M) := Lib.hid ⟨ua, uc, rfl, hrow⟩
      have HW2 := Lib.hid hw
      obtain ⟨m, hm⟩ : ∃ m, m = M.length := ⟨_, rfl⟩
      have HM := Lib.hid hm
      rw [← hm] at c3
      clear hcell hw hrow hm
      obtain ⟨wb, hwb⟩ : ∃ wb, wb = wr.alloc (.cells #[.int .i64 od, .int .i64 op, .int .i64 oc, .slice ua m uc] 45) := ⟨_, rfl⟩
      obtain ⟨ob, hob⟩ : ∃ ob, ob = wr.heap.size := ⟨_, rfl⟩
      have AB : Hid (PySt W wb v1 v2 (.slice aa n cc) C X rb T Q) := Lib.hid (AT.out.step (by rw [hwb]; exact below_step1 _ _))
      have OB : Hid (wb.heap[ob]? = some (.cells #[.int .i64 od, .int .i64 op, .int .i64 oc, .slice ua m uc] 45 (0, 0))) := Lib.hid (by rw [hwb, hob]; exact heap_alloc_new wr _)
      have HWB := Lib.hid hwb
      have HOB := Lib.hid hob
      clear hwb hob
      by_cases hbig : 100 < m
      · have g1 : decide (100 < m) = true := decide_eq_true hbig
        go_wp2_with fail
        rw [← HWB.out]
        refine (awake20 _).mono ?_
        rintro e w9 ⟨rfl, hb⟩
        have B9 := Lib.hid (AB.out.below.trans (hb.mono AB.out.below.size))
        clear hb
        go_wp2
        go_ret
        exact ⟨rfl, B9.out⟩
      have g1 : decide (100 < m) = false := decide_eq_false hbig
      obtain ⟨nw, hnw⟩ : ∃ nw, nw = wordsN C.2.2 oc := ⟨_, rfl⟩
      have NW := Lib.hid hnw
      have PL0 := play20_ok (AB.out.step (Below.refl _ _).drew) HX.out (show T < 300 by omega) M ua uc HU.out HW2.out (od := od) (op := op) (oc := oc)
      rw [← XB.out, ← HM.out] at PL0
      have PL := Lib.hid PL0
      have WAY := WY.out oc
      rw [← hnw] at WAY
      have WAY := Lib.hid WAY
      clear hnw PL0
      go_upto_region 22 with fail
      rw [← HWB.out, ← HOB.out]
      clear HWB HOB c0 c1 c2 c3
      go_cut [87] from 62 to 140 (fun v wx => ∃ b, v = .bool b ∧ wx = wb ∧ (b = true → ∃ (i cb co d : Nat), oc = (i : Int) ∧ i < n ∧ aa = some ⟨cb, co, none⟩ ∧ nw = (d : Int) ∧ ∀ V, Below W.heap.size W V → V.cell? ⟨cb, co + i * 4 + 3, none⟩ = some (.int .i64 (d : Int))) ∧ (b = false → nw = 0))
      case first =>
        obtain ⟨k0, k1, k2, k3⟩ := ops_cells OB.out
        have x2 := AB.out.box.c2
        rcases WAY.out with ⟨i, cb, co, d, rfl, hi, rfl, rfl, hc⟩ | ⟨rfl, h | ⟨h, h'⟩⟩
        · have HC := Lib.hid hc
          have d4 : decide ((0 : Int) ≤ (i : Int)) = true := decide_eq_true (by omega)
          clear hc
          go_wp2_with fail
          go_meet
          case rel => exact ⟨true, rfl, rfl, fun _ => ⟨i, cb, co, d, rfl, hi, rfl, rfl, HC.out⟩, fun e => (by cases e)⟩
        · have d4 : decide ((0 : Int) ≤ oc) = false := decide_eq_false (by omega)
          clear h
          go_wp2_with fail
          go_meet
          case rel => exact ⟨false, rfl, rfl, fun e => (by cases e), fun _ => trivial⟩
        · have d4 : decide ((0 : Int) ≤ oc) = true := decide_eq_true h
          have d5 : decide (oc < (n : Int)) = false := decide_eq_false (by omega)
          clear h h'
          go_wp2_with fail
          go_meet
          case rel => exact ⟨false, rfl, rfl, fun e => (by cases e), fun _ => trivial⟩
      case rest =>
        obtain ⟨b, rfl, rfl, hb1, hb2⟩ := hcut
        have H1 := Lib.hid hb1
        have H2 := Lib.hid hb2
        clear hb1 hb2 WAY WY
        go_upto_if 87 with fail
        go_cut [15] from 62 to 140 (fun v wx => v = .int .i64 nw ∧ wx = wc)
        case first =>
          cases b with
          | true =>
            obtain ⟨i, cb, co, d, rfl, hi, rfl, rfl, hc⟩ := H1.out rfl
            obtain ⟨k0, k1, k2, k3⟩ := ops_cells OB.out
            have x2 := AB.out.box.c2
            have c5 := hc _ AB.out.below
            have d2 : decide (n ≤ i) = false := decide_eq_false (by omega)
            clear hc
            go_wp2_with fail
            go_meet
            case rel => exact ⟨rfl, rfl⟩
          | false =>
            obtain rfl := H2.out rfl
            go_wp2_with fail
            go_meet
            case rel => exact ⟨rfl, rfl⟩
        case rest =>
          obtain ⟨rfl, rfl⟩ := hcut
          clear H1 H2
          go_upto_region 24 with fail
          obtain ⟨tm, htm⟩ : ∃ tm, od.tmod 2 = tm := ⟨_, rfl⟩
          obtain ⟨sb, hsb⟩ : ∃ sb, (tm == 1) = sb := ⟨_, rfl⟩
          have e1 : ∀ x : Int, (x != x) = false := fun x => by simp
          refine wp_region_held_drew (S := fun V => V.cell? ⟨ob, 0, none⟩ = some (.int .i64 od) ∧ V.cell? ⟨ob, 1, none⟩ = some (.int .i64 op) ∧ V.cell? ⟨ob, 2, none⟩ = some (.int .i64 oc) ∧ V.cell? ⟨ob, 3, none⟩ = some (.slice ua m uc)) (by kernel_rfl) (by exact ops_cells (below_block (Below.refl _ _).drew OB.out)) (fun hHeld => ?_)
          refine wpAnyH_take (i := 0) (oi := _) (v := .pointer (some ⟨xb, 0, none⟩)) rfl (by kernel_rfl) (by kernel_rfl) (by kernel_rfl) (fun _ _ _ h => h) (Or.inl ⟨by rfl, ?_⟩) (by assumption) ?_
          · intro w hSw
            try dsimp only at hSw
            go_split_ands
            go_simp
          try simp only [Act.put, List.getElem_toArray, List.getElem_cons_zero, List.setIfInBounds_toArray, List.set_cons_zero, List.set_cons_succ]
          refine wpAnyH_take (i := 1) (oi := _) (v := .agg #[.int .i64 od, .int .i64 op, .int .i64 oc, .slice ua m uc]) rfl (by kernel_rfl) (by kernel_rfl) (by kernel_rfl) (fun _ _ _ h => h) (Or.inl ⟨by rfl, ?_⟩) (by assumption) ?_
          · intro w hSw
            try dsimp only at hSw
            go_split_ands
            go_simp
          try simp only [Act.put, List.getElem_toArray, List.getElem_cons_zero, List.getElem_cons_succ, List.setIfInBounds_toArray, List.set_cons_zero, List.set_cons_succ]
          refine wpAnyH_ready (rs := [2]) (by kernel_rfl) (by simp) ?_
          refine AllReadyH.cons (o := _) rfl (fun K1 hK => ?_) AllReadyH.nil
          clear hHeld
          go_simp
          refine (PL.out).mono ?_
          rintro e w5 ⟨rfl, Q', hp, hk⟩
          have P5 := Lib.hid hp
          have OX := Lib.hid (hk _ _ (below_block (Below.refl _ _).drew OB.out))
          obtain ⟨lv, lvs, out, hx, R⟩ := hp.r.st
          obtain ⟨la, lc, rfl⟩ := R.lslice
          rw [← HN.out] at hx
          have RX := Lib.hid hx
          have G : Hid (∀ V, Below w5.heap.size w5 V → (V.cell? ⟨ob, 0, none⟩ = some (.int .i64 od) ∧ V.cell? ⟨ob, 1, none⟩ = some (.int .i64 op) ∧ V.cell? ⟨ob, 2, none⟩ = some (.int .i64 oc) ∧ V.cell? ⟨ob, 3, none⟩ = some (.slice ua m uc)) ∧ V.cell? ⟨rb, 0, none⟩ = some (.slice aa n cc) ∧ V.cell? ⟨rb, 1, none⟩ = some (.slice la n lc)) := Lib.hid fun V hV => ⟨ops_cells (below_block hV OX.out), pair_cells20 (below_block hV RX.out)⟩
          obtain ⟨er, her⟩ := Classical.axiomOfChoice fun s => PySt.may (W := W) (v1 := v1) (v2 := v2) (v3 := .slice aa n cc) (rb := rb) (T := T + 1) (Q := Q') HX.out op oc s
          have MAY := Lib.hid fun (s : Bool) (V : World) (hV : Below w5.heap.size w5 V) => (her s).1 V (P5.out.step hV)
          rw [← XB.out] at MAY
          have RMAY := Lib.hid fun (s : Bool) (V : World) (hV : Below w5.heap.size w5 V) => (her s).2 V _ (P5.out.step hV) (below_block hV RX.out)
          obtain ⟨nr, hr1, hr2⟩ := PySt.room (W := W) (v1 := v1) (v2 := v2) (v3 := .slice aa n cc) (rb := rb) (T := T + 1) (Q := Q') HX.out oc
          have RO := Lib.hid fun V (hV : Below w5.heap.size w5 V) => hr1 V (P5.out.step hV)
          rw [← XB.out] at RO
          have RRO := Lib.hid fun V (hV : Below w5.heap.size w5 V) => hr2 V _ (P5.out.step hV) (below_block hV RX.out)
          have WO := Lib.hid fun V (hV : Below w5.heap.size w5 V) => PySt.words HX.out oc (P5.out.step hV)
          rw [← XB.out, ← NW.out] at WO
          clear hr1 hr2 her hp hk hx R
          refine hK.out _ _ (by exact (G.out w5 (Below.refl _ _)).1) (fun hHeld => ?_)
          clear hK K1
          try simp only [Act.put, List.getElem_toArray, List.getElem_cons_zero, List.getElem_cons_succ, List.setIfInBounds_toArray, List.set_cons_zero, List.set_cons_succ]
          refine wpAnyH_take (i := 3) (oi := _) (v := .bool false) rfl (by kernel_rfl) (by kernel_rfl) (by kernel_rfl) (fun _ _ _ h => h) (Or.inl ⟨by rfl, ?_⟩) (by assumption) ?_
          · intro w hSw
            try dsimp only at hSw
            go_split_ands
            go_simp
          try simp only [Act.put, List.getElem_toArray, List.getElem_cons_zero, List.getElem_cons_succ, List.setIfInBounds_toArray, List.set_cons_zero, List.set_cons_succ]
          refine wpAnyH_take (i := 4) (oi := _) (v := .bool false) rfl (by kernel_rfl) (by kernel_rfl) (by kernel_rfl) (fun _ _ _ h => h) (Or.inl ⟨by rfl, ?_⟩) (by assumption) ?_
          · intro w hSw
            try dsimp only at hSw
            go_split_ands
            go_simp
          try simp only [Act.put, List.getElem_toArray, List.getElem_cons_zero, List.getElem_cons_succ, List.setIfInBounds_toArray, List.set_cons_zero, List.set_cons_succ]
          have hS := G.out w5 (Below.refl _ _)
          refine anyH_mono (S' := fun V => (V.cell? ⟨ob, 0, none⟩ = some (.int .i64 od) ∧ V.cell? ⟨ob, 1, none⟩ = some (.int .i64 op) ∧ V.cell? ⟨ob, 2, none⟩ = some (.int .i64 oc) ∧ V.cell? ⟨ob, 3, none⟩ = some (.slice ua m uc)) ∧ V.cell? ⟨rb, 0, none⟩ = some (.slice aa n cc) ∧ V.cell? ⟨rb, 1, none⟩ = some (.slice la n lc)) (fun _ h => h.1) _ _ _ _ ?_
          clear hHeld
          have hHeld := hS
          clear hS
          refine wpAnyH_take (i := 5) (oi := _) (v := .pointer (some ⟨xb, 0, none⟩)) rfl (by kernel_rfl) (by kernel_rfl) (by kernel_rfl) (fun _ _ _ h => h) (Or.inl ⟨by rfl, ?_⟩) (by assumption) ?_
          · intro w hSw
            try dsimp only at hSw
            go_split_ands
            go_simp
          try simp only [Act.put, List.getElem_toArray, List.getElem_cons_zero, List.getElem_cons_succ, List.setIfInBounds_toArray, List.set_cons_zero, List.set_cons_succ]
          refine wpAnyH_take (i := 6) (oi := _) (v := .pointer (some ⟨ob, 1, none⟩)) rfl (by kernel_rfl) (by kernel_rfl) (by kernel_rfl) (fun _ _ _ h => h) (Or.inl ⟨by rfl, ?_⟩) (by assumption) ?_
          · intro w hSw
            try dsimp only at hSw
            go_split_ands
            go_simp
          try simp only [Act.put, List.getElem_toArray, List.getElem_cons_zero, List.getElem_cons_succ, List.setIfInBounds_toArray, List.set_cons_zero, List.set_cons_succ]
          refine wpAnyH_take (i := 7) (oi := _) (v := .int .i64 op) rfl (by kernel_rfl) (by kernel_rfl) (by kernel_rfl) (fun _ _ _ h => h) (Or.inl ⟨by rfl, ?_⟩) (by assumption) ?_
          · intro w hSw
            try dsimp only at hSw
            go_split_ands
            go_simp
          try simp only [Act.put, List.getElem_toArray, List.getElem_cons_zero, List.getElem_cons_succ, List.setIfInBounds_toArray, List.set_cons_zero, List.set_cons_succ]
          refine wpAnyH_take (i := 8) (oi := _) (v := .pointer (some ⟨ob, 2, none⟩)) rfl (by kernel_rfl) (by kernel_rfl) (by kernel_rfl) (fun _ _ _ h => h) (Or.inl ⟨by rfl, ?_⟩) (by assumption) ?_
          · intro w hSw
            try dsimp only at hSw
            go_split_ands
            go_simp
          try simp only [Act.put, List.getElem_toArray, List.getElem_cons_zero, List.getElem_cons_succ, List.setIfInBounds_toArray, List.set_cons_zero, List.set_cons_succ]
          refine wpAnyH_take (i := 9) (oi := _) (v := .int .i64 oc) rfl (by kernel_rfl) (by kernel_rfl) (by kernel_rfl) (fun _ _ _ h => h) (Or.inl ⟨by rfl, ?_⟩) (by assumption) ?_
          · intro w hSw
            try dsimp only at hSw
            go_split_ands
            go_simp
          try simp only [Act.put, List.getElem_toArray, List.getElem_cons_zero, List.getElem_cons_succ, List.setIfInBounds_toArray, List.set_cons_zero, List.set_cons_succ]
          refine wpAnyH_take (i := 10) (oi := _) (v := .pointer (some ⟨ob, 0, none⟩)) rfl (by kernel_rfl) (by kernel_rfl) (by kernel_rfl) (fun _ _ _ h => h) (Or.inl ⟨by rfl, ?_⟩) (by assumption) ?_
          · intro w hSw
            try dsimp only at hSw
            go_split_ands
            go_simp
          try simp only [Act.put, List.getElem_toArray, List.getElem_cons_zero, List.getElem_cons_succ, List.setIfInBounds_toArray, List.set_cons_zero, List.set_cons_succ]
          refine wpAnyH_take (i := 11) (oi := _) (v := .int .i64 od) rfl (by kernel_rfl) (by kernel_rfl) (by kernel_rfl) (fun _ _ _ h => h) (Or.inl ⟨by rfl, ?_⟩) (by assumption) ?_
          · intro w hSw
            try dsimp only at hSw
            go_split_ands
            go_simp
          try simp only [Act.put, List.getElem_toArray, List.getElem_cons_zero, List.getElem_cons_succ, List.setIfInBounds_toArray, List.set_cons_zero, List.set_cons_succ]
          refine wpAnyH_take (i := 12) (oi := _) (v := .int .i64 tm) rfl (by kernel_rfl) (by kernel_rfl) (by kernel_rfl) (fun _ _ _ h => h) (Or.inl ⟨by rfl, ?_⟩) (by assumption) ?_
          · intro w hSw
            try dsimp only at hSw
            go_split_ands
            go_simp
          try simp only [Act.put, List.getElem_toArray, List.getElem_cons_zero, List.getElem_cons_succ, List.setIfInBounds_toArray, List.set_cons_zero, List.set_cons_succ]
          refine wpAnyH_take (i := 13) (oi := _) (v := .bool sb) rfl (by kernel_rfl) (by kernel_rfl) (by kernel_rfl) (fun _ _ _ h => h) (Or.inl ⟨by rfl, ?_⟩) (by assumption) ?_
          · intro w hSw
            try dsimp only at hSw
            go_split_ands
            go_simp
          try simp only [Act.put, List.getElem_toArray, List.getElem_cons_zero, List.getElem_cons_succ, List.setIfInBounds_toArray, List.set_cons_zero, List.set_cons_succ]
          refine wpAnyH_take (i := 15) (oi := _) (v := .agg #[.slice aa n cc, .slice la n lc]) rfl (by kernel_rfl) (by kernel_rfl) (by kernel_rfl) (fun _ _ _ h => h) (Or.inl ⟨by rfl, ?_⟩) (by assumption) ?_
          · intro w hSw
            try dsimp only at hSw
            go_split_ands
            go_simp
          try simp only [Act.put, List.getElem_toArray, List.getElem_cons_zero, List.getElem_cons_succ, List.setIfInBounds_toArray, List.set_cons_zero, List.set_cons_succ]
          refine wpAnyH_take (i := 16) (oi := _) (v := .pointer (some ⟨ob, 1, none⟩)) rfl (by kernel_rfl) (by kernel_rfl) (by kernel_rfl) (fun _ _ _ h => h) (Or.inl ⟨by rfl, ?_⟩) (by assumption) ?_
          · intro w hSw
            try dsimp only at hSw
            go_split_ands
            go_simp
          try simp only [Act.put, List.getElem_toArray, List.getElem_cons_zero, List.getElem_cons_succ, List.setIfInBounds_toArray, List.set_cons_zero, List.set_cons_succ]
          refine wpAnyH_take (i := 17) (oi := _) (v := .int .i64 op) rfl (by kernel_rfl) (by kernel_rfl) (by kernel_rfl) (fun _ _ _ h => h) (Or.inl ⟨by rfl, ?_⟩) (by assumption) ?_
          · intro w hSw
            try dsimp only at hSw
            go_split_ands
            go_simp
          try simp only [Act.put, List.getElem_toArray, List.getElem_cons_zero, List.getElem_cons_succ, List.setIfInBounds_toArray, List.set_cons_zero, List.set_cons_succ]
          refine wpAnyH_take (i := 18) (oi := _) (v := .pointer (some ⟨ob, 2, none⟩)) rfl (by kernel_rfl) (by kernel_rfl) (by kernel_rfl) (fun _ _ _ h => h) (Or.inl ⟨by rfl, ?_⟩) (by assumption) ?_
          · intro w hSw
            try dsimp only at hSw
            go_split_ands
            go_simp
          try simp only [Act.put, List.getElem_toArray, List.getElem_cons_zero, List.getElem_cons_succ, List.setIfInBounds_toArray, List.set_cons_zero, List.set_cons_succ]
          refine wpAnyH_take (i := 19) (oi := _) (v := .int .i64 oc) rfl (by kernel_rfl) (by kernel_rfl) (by kernel_rfl) (fun _ _ _ h => h) (Or.inl ⟨by rfl, ?_⟩) (by assumption) ?_
          · intro w hSw
            try dsimp only at hSw
            go_split_ands
            go_simp
          try simp only [Act.put, List.getElem_toArray, List.getElem_cons_zero, List.getElem_cons_succ, List.setIfInBounds_toArray, List.set_cons_zero, List.set_cons_succ]
          refine wpAnyH_take (i := 20) (oi := _) (v := .pointer (some ⟨ob, 0, none⟩)) rfl (by kernel_rfl) (by kernel_rfl) (by kernel_rfl) (fun _ _ _ h => h) (Or.inl ⟨by rfl, ?_⟩) (by assumption) ?_
          · intro w hSw
            try dsimp only at hSw
            go_split_ands
            go_simp
          try simp only [Act.put, List.getElem_toArray, List.getElem_cons_zero, List.getElem_cons_succ, List.setIfInBounds_toArray, List.set_cons_zero, List.set_cons_succ]
          refine wpAnyH_take (i := 21) (oi := _) (v := .int .i64 od) rfl (by kernel_rfl) (by kernel_rfl) (by kernel_rfl) (fun _ _ _ h => h) (Or.inl ⟨by rfl, ?_⟩) (by assumption) ?_
          · intro w hSw
            try dsimp only at hSw
            go_split_ands
            go_simp
          try simp only [Act.put, List.getElem_toArray, List.getElem_cons_zero, List.getElem_cons_succ, List.setIfInBounds_toArray, List.set_cons_zero, List.set_cons_succ]
          refine wpAnyH_take (i := 22) (oi := _) (v := .int .i64 tm) rfl (by kernel_rfl) (by kernel_rfl) (by kernel_rfl) (fun _ _ _ h => h) (Or.inl ⟨by rfl, ?_⟩) (by assumption) ?_
          · intro w hSw
            try dsimp only at hSw
            go_split_ands
            go_simp
          try simp only [Act.put, List.getElem_toArray, List.getElem_cons_zero, List.getElem_cons_succ, List.setIfInBounds_toArray, List.set_cons_zero, List.set_cons_succ]
          refine wpAnyH_take (i := 23) (oi := _) (v := .bool sb) rfl (by kernel_rfl) (by kernel_rfl) (by kernel_rfl) (fun _ _ _ h => h) (Or.inl ⟨by rfl, ?_⟩) (by assumption) ?_
          · intro w hSw
            try dsimp only at hSw
            go_split_ands
            go_simp
          try simp only [Act.put, List.getElem_toArray, List.getElem_cons_zero, List.getElem_cons_succ, List.setIfInBounds_toArray, List.set_cons_zero, List.set_cons_succ]
          refine wpAnyH_ready (rs := [14]) (by kernel_rfl) (by simp) ?_
          refine AllReadyH.cons (o := _) rfl (fun K1 hK => ?_) AllReadyH.nil
          clear hHeld
          go_simp
          refine (MAY.out sb w5 (Below.refl _ _)).mono ?_
          rintro e w6 ⟨rfl, hb⟩
          have B6 := Lib.hid hb
          clear hb
          refine hK.out _ _ (by exact G.out _ B6.out) (fun hHeld => ?_)
          clear hK K1
          try simp only [Act.put, List.getElem_toArray, List.getElem_cons_zero, List.getElem_cons_succ, List.setIfInBounds_toArray, List.set_cons_zero, List.set_cons_succ]
          refine wpAnyH_ready (rs := [24]) (by kernel_rfl) (by simp) ?_
          refine AllReadyH.cons (o := _) rfl (fun K1 hK => ?_) AllReadyH.nil
          clear hHeld
          go_simp
          refine (RMAY.out sb w6 B6.out).mono ?_
          rintro e w7 ⟨rfl, hb⟩
          have B7 := Lib.hid (B6.out.trans (hb.mono B6.out.size))
          clear hb
          refine hK.out _ _ (by exact G.out _ B7.out) (fun hHeld => ?_)
          clear hK K1
          try simp only [Act.put, List.getElem_toArray, List.getElem_cons_zero, List.getElem_cons_succ, List.setIfInBounds_toArray, List.set_cons_zero, List.set_cons_succ]
          refine wpAnyH_take (i := 25) (oi := _) (v := .bool false) rfl (by kernel_rfl) (by kernel_rfl) (by kernel_rfl) (fun _ _ _ h => h) (Or.inl ⟨by rfl, ?_⟩) (by assumption) ?_
          · intro w hSw
            try dsimp only at hSw
            go_split_ands
            go_simp
          try simp only [Act.put, List.getElem_toArray, List.getElem_cons_zero, List.getElem_cons_succ, List.setIfInBounds_toArray, List.set_cons_zero, List.set_cons_succ]
          refine wpAnyH_take (i := 26) (oi := _) (v := .bool false) rfl (by kernel_rfl) (by kernel_rfl) (by kernel_rfl) (fun _ _ _ h => h) (Or.inl ⟨by rfl, ?_⟩) (by assumption) ?_
          · intro w hSw
            try dsimp only at hSw
            go_split_ands
            go_simp
          try simp only [Act.put, List.getElem_toArray, List.getElem_cons_zero, List.getElem_cons_succ, List.setIfInBounds_toArray, List.set_cons_zero, List.set_cons_succ]
          refine wpAnyH_take (i := 27) (oi := _) (v := .bool false) rfl (by kernel_rfl) (by kernel_rfl) (by kernel_rfl) (fun _ _ _ h => h) (Or.inl ⟨by rfl, ?_⟩) (by assumption) ?_
          · intro w hSw
            try dsimp only at hSw
            go_split_ands
            go_simp
          try simp only [Act.put, List.getElem_toArray, List.getElem_cons_zero, List.getElem_cons_succ, List.setIfInBounds_toArray, List.set_cons_zero, List.set_cons_succ]
          refine wpAnyH_take (i := 28) (oi := _) (v := .pointer (some ⟨xb, 0, none⟩)) rfl (by kernel_rfl) (by kernel_rfl) (by kernel_rfl) (fun _ _ _ h => h) (Or.inl ⟨by rfl, ?_⟩) (by assumption) ?_
          · intro w hSw
            try dsimp only at hSw
            go_split_ands
            go_simp
          try simp only [Act.put, List.getElem_toArray, List.getElem_cons_zero, List.getElem_cons_succ, List.setIfInBounds_toArray, List.set_cons_zero, List.set_cons_succ]
          refine wpAnyH_take (i := 29) (oi := _) (v := .pointer (some ⟨ob, 2, none⟩)) rfl (by kernel_rfl) (by kernel_rfl) (by kernel_rfl) (fun _ _ _ h => h) (Or.inl ⟨by rfl, ?_⟩) (by assumption) ?_
          · intro w hSw
            try dsimp only at hSw
            go_split_ands
            go_simp
          try simp only [Act.put, List.getElem_toArray, List.getElem_cons_zero, List.getElem_cons_succ, List.setIfInBounds_toArray, List.set_cons_zero, List.set_cons_succ]
          refine wpAnyH_take (i := 30) (oi := _) (v := .int .i64 oc) rfl (by kernel_rfl) (by kernel_rfl) (by kernel_rfl) (fun _ _ _ h => h) (Or.inl ⟨by rfl, ?_⟩) (by assumption) ?_
          · intro w hSw
            try dsimp only at hSw
            go_split_ands
            go_simp
          try simp only [Act.put, List.getElem_toArray, List.getElem_cons_zero, List.getElem_cons_succ, List.setIfInBounds_toArray, List.set_cons_zero, List.set_cons_succ]
          refine wpAnyH_take (i := 32) (oi := _) (v := .agg #[.slice aa n cc, .slice la n lc]) rfl (by kernel_rfl) (by kernel_rfl) (by kernel_rfl) (fun _ _ _ h => h) (Or.inl ⟨by rfl, ?_⟩) (by assumption) ?_
          · intro w hSw
            try dsimp only at hSw
            go_split_ands
            go_simp
          try simp only [Act.put, List.getElem_toArray, List.getElem_cons_zero, List.getElem_cons_succ, List.setIfInBounds_toArray, List.set_cons_zero, List.set_cons_succ]
          refine wpAnyH_take (i := 33) (oi := _) (v := .pointer (some ⟨ob, 2, none⟩)) rfl (by kernel_rfl) (by kernel_rfl) (by kernel_rfl) (fun _ _ _ h => h) (Or.inl ⟨by rfl, ?_⟩) (by assumption) ?_
          · intro w hSw
            try dsimp only at hSw
            go_split_ands
            go_simp
          try simp only [Act.put, List.getElem_toArray, List.getElem_cons_zero, List.getElem_cons_succ, List.setIfInBounds_toArray, List.set_cons_zero, List.set_cons_succ]
          refine wpAnyH_take (i := 34) (oi := _) (v := .int .i64 oc) rfl (by kernel_rfl) (by kernel_rfl) (by kernel_rfl) (fun _ _ _ h => h) (Or.inl ⟨by rfl, ?_⟩) (by assumption) ?_
          · intro w hSw
            try dsimp only at hSw
            go_split_ands
            go_simp
          try simp only [Act.put, List.getElem_toArray, List.getElem_cons_zero, List.getElem_cons_succ, List.setIfInBounds_toArray, List.set_cons_zero, List.set_cons_succ]
          refine wpAnyH_ready (rs := [31]) (by kernel_rfl) (by simp) ?_
          refine AllReadyH.cons (o := _) rfl (fun K1 hK => ?_) AllReadyH.nil
          clear hHeld
          go_simp
          refine (RO.out w7 B7.out).mono ?_
          rintro e w8 ⟨rfl, hb⟩
          have B8 := Lib.hid (B7.out.trans (hb.mono B7.out.size))
          clear hb
          refine hK.out _ _ (by exact G.out _ B8.out) (fun hHeld => ?_)
          clear hK K1
          try simp only [Act.put, List.getElem_toArray, List.getElem_cons_zero, List.getElem_cons_succ, List.setIfInBounds_toArray, List.set_cons_zero, List.set_cons_succ]
          refine wpAnyH_ready (rs := [35]) (by kernel_rfl) (by simp) ?_
          refine AllReadyH.cons (o := _) rfl (fun K1 hK => ?_) AllReadyH.nil
          clear hHeld
          go_simp
          refine (RRO.out w8 B8.out).mono ?_
          rintro e w9 ⟨rfl, hb⟩
          have B9 := Lib.hid (B8.out.trans (hb.mono B8.out.size))
          clear hb
          refine hK.out _ _ (by exact G.out _ B9.out) (fun hHeld => ?_)
          clear hK K1
          try simp only [Act.put, List.getElem_toArray, List.getElem_cons_zero, List.getElem_cons_succ, List.setIfInBounds_toArray, List.set_cons_zero, List.set_cons_succ]
          refine wpAnyH_take (i := 36) (oi := _) (v := .bool false) rfl (by kernel_rfl) (by kernel_rfl) (by kernel_rfl) (fun _ _ _ h => h) (Or.inl ⟨by rfl, ?_⟩) (by assumption) ?_
          · intro w hSw
            try dsimp only at hSw
            go_split_ands
            go_simp
          try simp only [Act.put, List.getElem_toArray, List.getElem_cons_zero, List.getElem_cons_succ, List.setIfInBounds_toArray, List.set_cons_zero, List.set_cons_succ]
          refine wpAnyH_take (i := 37) (oi := _) (v := .bool false) rfl (by kernel_rfl) (by kernel_rfl) (by kernel_rfl) (fun _ _ _ h => h) (Or.inl ⟨by rfl, ?_⟩) (by assumption) ?_
          · intro w hSw
            try dsimp only at hSw
            go_split_ands
            go_simp
          try simp only [Act.put, List.getElem_toArray, List.getElem_cons_zero, List.getElem_cons_succ, List.setIfInBounds_toArray, List.set_cons_zero, List.set_cons_succ]
          refine wpAnyH_take (i := 38) (oi := _) (v := .bool false) rfl (by kernel_rfl) (by kernel_rfl) (by kernel_rfl) (fun _ _ _ h => h) (Or.inl ⟨by rfl, ?_⟩) (by assumption) ?_
          · intro w hSw
            try dsimp only at hSw
            go_split_ands
            go_simp
          try simp only [Act.put, List.getElem_toArray, List.getElem_cons_zero, List.getElem_cons_succ, List.setIfInBounds_toArray, List.set_cons_zero, List.set_cons_succ]
          refine wpAnyH_take (i := 39) (oi := _) (v := .pointer (some ⟨xb, 0, none⟩)) rfl (by kernel_rfl) (by kernel_rfl) (by kernel_rfl) (fun _ _ _ h => h) (Or.inl ⟨by rfl, ?_⟩) (by assumption) ?_
          · intro w hSw
            try dsimp only at hSw
            go_split_ands
            go_simp
          try simp only [Act.put, List.getElem_toArray, List.getElem_cons_zero, List.getElem_cons_succ, List.setIfInBounds_toArray, List.set_cons_zero, List.set_cons_succ]
          refine wpAnyH_take (i := 40) (oi := _) (v := .pointer (some ⟨ob, 2, none⟩)) rfl (by kernel_rfl) (by kernel_rfl) (by kernel_rfl) (fun _ _ _ h => h) (Or.inl ⟨by rfl, ?_⟩) (by assumption) ?_
          · intro w hSw
            try dsimp only at hSw
            go_split_ands
            go_simp
          try simp only [Act.put, List.getElem_toArray, List.getElem_cons_zero, List.getElem_cons_succ, List.setIfInBounds_toArray, List.set_cons_zero, List.set_cons_succ]
          refine wpAnyH_take (i := 41) (oi := _) (v := .int .i64 oc) rfl (by kernel_rfl) (by kernel_rfl) (by kernel_rfl) (fun _ _ _ h => h) (Or.inl ⟨by rfl, ?_⟩) (by assumption) ?_
          · intro w hSw
            try dsimp only at hSw
            go_split_ands
            go_simp
          try simp only [Act.put, List.getElem_toArray, List.getElem_cons_zero, List.getElem_cons_succ, List.setIfInBounds_toArray, List.set_cons_zero, List.set_cons_succ]
          refine wpAnyH_take (i := 43) (oi := _) (v := .int .i64 nw) rfl (by kernel_rfl) (by kernel_rfl) (by kernel_rfl) (fun _ _ _ h => h) (Or.inl ⟨by rfl, ?_⟩) (by assumption) ?_
          · intro w hSw
            try dsimp only at hSw
            go_split_ands
            go_simp
          try simp only [Act.put, List.getElem_toArray, List.getElem_cons_zero, List.getElem_cons_succ, List.setIfInBounds_toArray, List.set_cons_zero, List.set_cons_succ]
          refine wpAnyH_ready (rs := [42]) (by kernel_rfl) (by simp) ?_
          refine AllReadyH.cons (o := _) rfl (fun K1 hK => ?_) AllReadyH.nil
          clear hHeld
          go_simp
          refine (WO.out w9 B9.out).mono ?_
          rintro e w10 ⟨rfl, hb⟩
          have P10 := Lib.hid (P5.out.step (B9.out.trans (hb.mono B9.out.size)))
          have B10 := Lib.hid (B9.out.trans (hb.mono B9.out.size))
          clear hb
          refine hK.out _ _ (by exact G.out _ B10.out) (fun hHeld => ?_)
          clear hK K1
          try simp only [Act.put, List.getElem_toArray, List.getElem_cons_zero, List.getElem_cons_succ, List.setIfInBounds_toArray, List.set_cons_zero, List.set_cons_succ]
          refine wpAnyH_take (i := 44) (oi := _) (v := .bool false) rfl (by kernel_rfl) (by kernel_rfl) (by kernel_rfl) (fun _ _ _ h => h) (Or.inl ⟨by rfl, ?_⟩) (by assumption) ?_
          · intro w hSw
            try dsimp only at hSw
            go_split_ands
            go_simp
          try simp only [Act.put, List.getElem_toArray, List.getElem_cons_zero, List.getElem_cons_succ, List.setIfInBounds_toArray, List.set_cons_zero, List.set_cons_succ]
          refine wpAnyH_take (i := 45) (oi := _) (v := .bool false) rfl (by kernel_rfl) (by kernel_rfl) (by kernel_rfl) (fun _ _ _ h => h) (Or.inl ⟨by rfl, ?_⟩) (by assumption) ?_
          · intro w hSw
            try dsimp only at hSw
            go_split_ands
            go_simp
          try simp only [Act.put, List.getElem_toArray, List.getElem_cons_zero, List.getElem_cons_succ, List.setIfInBounds_toArray, List.set_cons_zero, List.set_cons_succ]
          refine wpAnyH_done (by kernel_rfl) ?_ _
          clear hHeld
          go_wp2_with fail
          go_roundw
          case rel => exact ⟨t + 1, T + 1, Q', by go_num, by omega, by omega, P10.out⟩
          case measure => simp [intOf]; omega
    · obtain rfl : ns = t := by omega
      clear hlt2
      go_wp2_with fail
      refine (awake20 _).mono ?_
      rintro e w9 ⟨rfl, hb⟩
      have B9 := Lib.hid (AT.out.below.trans (hb.mono AT.out.below.size))
      clear hb
      go_wp2
      go_ret
      exact ⟨rfl, B9.out⟩
end Go.Proofs.Ytnapodeiigkebaa
