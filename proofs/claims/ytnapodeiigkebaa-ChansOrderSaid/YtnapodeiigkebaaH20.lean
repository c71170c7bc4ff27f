/- The walk of ChansOrder, where all is well. Condition: the configuration and the messages lie as they came in. -/
import Derived.Test.YtnapodeiigkebaaH19
namespace Go.Proofs.Ytnapodeiigkebaa
open Go.RowKit Go.Maps
set_option maxRecDepth 100000

theorem app_snd (P : List (Value × List Int)) (u : Value) (N : List Int) : (P ++ [(u, N)]).map (·.2) = P.map (·.2) ++ [N] := by simp
theorem drop_sndH {P : List (Value × List Int)} {j : Nat} (h : j < P.length) : (P.map (·.2)).drop j = (P.getD j default).2 :: (P.map (·.2)).drop (j + 1) := by
  rw [List.drop_eq_getElem_cons (by simpa using h)]
  simp [List.getD_eq_getElem?_getD, h]
set_option maxHeartbeats 4000000 in
theorem ord_in {v1 v2 v3 : Value} {C : Cf} {W : World} (CF : CfAt W v1 v2 v3 C) (hl : ¬ longC C) (hk : chk C = 0) (i : Nat) (hi : i < C.2.2.length) (v : Value) (S : List (List Int)) (hS : ArgLs20 W v S) (hS20 : S.length ≤ 20) :
    Calls Try.prog 5 #[.agg #[v1, v2, v3], .int .i64 (i : Int), v] W fun e w' => e = .returned (.bool true) ∧ Below W.heap.size W w' := by
  obtain ⟨ii, hi1, hi2, hi3, hi4⟩ := info_parts msgsInfo
  obtain ⟨cb, co, cc, a, b, c, d, rfl, hT, hab, hc, hd, hRC⟩ := chanH_cells CF hk i hi
  obtain ⟨la, lc, rfl, hS2⟩ := hS
  have RC := Lib.hid hRC
  have SL := Lib.hid fun (j : Nat) (hj : j < S.length) => show ∃ lb lo u, la = some ⟨lb, lo, none⟩ ∧ (∀ V, Below W.heap.size W V → V.cell? ⟨lb, lo + j, none⟩ = some u) ∧ ArgMs W u (S.getD j []) from by
    obtain ⟨lb, lo, rfl, hlt, hc⟩ := hS2.resolve_left (by rintro rfl; simp at hj)
    obtain ⟨u, h1, h2⟩ := hc j hj
    exact ⟨lb, lo, u, rfl, fun V hV => (hV.cell (p := ⟨lb, lo + j, none⟩) hlt).trans h1, h2⟩
  have V1 := Lib.hid (CvH.new CF)
  have LA := Lib.hid fun V (h : CvH W V v1 v2 (.slice (some ⟨cb, co, none⟩) C.2.2.length cc) C) => long20_no _ _ _ C V h.conf hl
  have KA := Lib.hid fun V (h : CvH W V v1 v2 (.slice (some ⟨cb, co, none⟩) C.2.2.length cc) C) => check_ok _ _ _ C V h.conf
  have FA := Lib.hid fun V (h : CvH W V v1 v2 (.slice (some ⟨cb, co, none⟩) C.2.2.length cc) C) => framesOf_ok _ _ _ C V h.conf
  obtain ⟨f1, f2⟩ := framesC_pos hk
  obtain ⟨N, hN⟩ := Int.eq_ofNat_of_zero_le (show 0 ≤ framesC C by omega)
  have fa : framesA C = (N : Int) := by unfold framesA; rw [if_pos (chk_zero hk).1, hN]
  rw [fa] at FA
  rw [hk] at KA
  have NM := Lib.hid fun V => new_ok N V (by omega) (by omega)
  have NW := Lib.hid fun V mp fb (hM : OwnMem W V mp fb N (List.replicate (N * 32) 0)) (h : CvH W V v1 v2 (.slice (some ⟨cb, co, none⟩) C.2.2.length cc) C) => newH_ok hM.st (zeros_wd _) h.conf hk (by rw [hN]; exact Int.le_refl _)
  have CFh := Lib.hid CF
  have HT := Lib.hid hT
  have HI := Lib.hid hi
  obtain ⟨n, hn⟩ : ∃ n, n = C.2.2.length := ⟨_, rfl⟩
  obtain ⟨nl, hnl⟩ : ∃ nl, nl = S.length := ⟨_, rfl⟩
  rw [← hn] at hi V1 LA KA FA NW CFh ⊢
  rw [← hnl] at hS20 SL ⊢
  have d0 : decide ((i : Int) < 0) = false := decide_eq_false (by omega)
  have d1 : decide ((n : Int) ≤ (i : Int)) = false := decide_eq_false (by omega)
  have d2 : decide (n ≤ i) = false := decide_eq_false (by omega)
  have d3 : decide (20 < nl) = false := decide_eq_false (by omega)
  clear CF hl hk hT hRC hab fa hN f1 f2 hn hS2 hnl
  go_enter Try.func5, Try.ntmps5
  go_wp2_with (first
    | (go_at_call 8; refine (LA.out _ V1.out).mono ?_; rintro e w2 ⟨rfl, hb⟩; have V2 := Lib.hid (V1.out.step hb); have x0 := V2.out.box.c0; have x1 := V2.out.box.c1; have x2 := V2.out.box.c2; clear hb)
    | (go_at_call 26; refine (KA.out _ V2.out).mono ?_; rintro e w3 ⟨rfl, hb⟩; have V3 := Lib.hid (V2.out.step hb); have x0 := V3.out.box.c0; have x1 := V3.out.box.c1; have x2 := V3.out.box.c2; clear hb)
    | (go_at_call 27; refine (FA.out _ V3.out).mono ?_; rintro e w4 ⟨rfl, hb⟩; have V4 := Lib.hid (V3.out.step hb); clear hb)
    | (go_at_call 10; refine (NM.out _).mono ?_; intro e w5 hp; obtain ⟨mp, fb, rfl, hm⟩ := OwnMem.new hp; have V5 := Lib.hid (V4.out.step hm.below); have M5 := Lib.hid (OwnMem.late V4.out.below hm); have x0 := V5.out.box.c0; have x1 := V5.out.box.c1; have x2 := V5.out.box.c2; clear hm hp))
  refine (NW.out _ _ _ M5.out V5.out).mono ?_
  rintro e w6 ⟨X, rfl, hX⟩
  have HX : Hid (X.H = C.2.2) := Lib.hid hX.2.1
  have L6 : Hid (LwH W w6 v1 v2 (.slice (some ⟨cb, co, none⟩) n cc) C X (fun _ => 0) (List.replicate (N * 32) 0) Q0) := Lib.hid ⟨OwnH.made M5.out hX, V5.out.box.below hX.2.2.2.2.2.2.2.2.2, CFh.out⟩
  have x2 := L6.out.box.c2
  obtain ⟨y0, y1, y2, y3⟩ := RC.out _ L6.out.own.below
  obtain ⟨xb, hxb⟩ : ∃ xb, xb = X.xb := ⟨_, rfl⟩
  have XB := Lib.hid hxb
  rw [← hxb]
  clear hX hxb
  obtain ⟨w7, hw7⟩ : ∃ w7, w7 = w6.alloc (.cells #[.int .i64 a, .int .i64 b, .int .i64 (c : Int), .int .i64 (d : Int)] 47) := ⟨_, rfl⟩
  obtain ⟨kb, hkb⟩ : ∃ kb, kb = w6.heap.size := ⟨_, rfl⟩
  have O7 : Hid (OrdSt W w7 v1 v2 (.slice (some ⟨cb, co, none⟩) n cc) C X i kb a b c d W.heap.size (.slice none 0 0) [] []) := Lib.hid
    ⟨⟨_, _, Q0, L6.out.step (by rw [hw7]; exact below_step1 _ _), rfl⟩, by rw [hw7, hkb]; exact heap_alloc_new w6 _, ⟨rfl, Or.inl ⟨rfl, rfl⟩⟩, by simp, Nat.le_refl _, by rw [hw7]; have := L6.out.own.below.size; simp; omega⟩
  have HW := Lib.hid hw7
  have HK := Lib.hid hkb
  clear hw7 hkb
  go_wp2_with fail
  rw [← HW.out, ← HK.out]
  clear HW HK y0 y1 y2 y3 x0 x1 x2 V1 V2 V3 V4 V5 M5 LA KA FA NM NW L6
  go_loopw [12, 13] (fun s q wr => ∃ (j : Nat) (P : List (Value × List Int)), q = .int .i64 (j : Int) ∧ j ≤ nl ∧ P.length ≤ j ∧ P.length ≤ c ∧ OrdSt W wr v1 v2 (.slice (some ⟨cb, co, none⟩) n cc) C X i kb a b c d W.heap.size s P (P.map (·.2))) (fun _ q _ => (nl - (intOf q).toNat))
  case atStart => exact ⟨0, [], rfl, Nat.zero_le _, Nat.le_refl _, Nat.zero_le _, O7.out⟩
  case round =>
    obtain ⟨j, P, rfl, hj, hpj, hpc, h⟩ := hrel
    have O := Lib.hid h
    clear h
    by_cases hlt : j < nl
    · obtain ⟨lb, lo, u, rfl, hcell, ua, uc, rfl, -, -, -, hw, hrow⟩ := SL.out j hlt
      have CL := Lib.hid hcell
      obtain ⟨M, hM⟩ : ∃ M, M = S.getD j [] := ⟨_, rfl⟩
      rw [← hM] at CL hw hrow
      have HU : Hid (RowAt W (.slice ua M.length uc) M) := Lib.hid ⟨ua, uc, rfl, hrow⟩
      have HW2 := Lib.hid hw
      obtain ⟨m, hm⟩ : ∃ m, m = M.length := ⟨_, rfl⟩
      have HM := Lib.hid hm
      rw [← hm] at CL HU
      have cl := CL.out _ O.out.below
      clear hcell hw hrow hM hm
      by_cases hbig : 100 < m
      · have g0 : decide (100 < m) = true := decide_eq_true hbig
        go_wp2_with (go_at_call 9; refine (awake20 _).mono ?_; rintro e w9 ⟨rfl, hb⟩; have B9 := Lib.hid (O.out.below.trans (hb.mono O.out.below.size)); clear hb)
        go_ret
        exact ⟨rfl, B9.out⟩
      have g0 : decide (100 < m) = false := decide_eq_false hbig
      obtain ⟨k0, k1, k2, k3, -⟩ := box4 O.out.kbox
      have SN : ∀ {er : Int} {Q' : List (List Int)}, (if 1 ≤ m ∧ m ≤ d then (if P.length < c then 0 else 12) else 2) = er → (if er = 0 then P.map (·.2) ++ [M] else P.map (·.2)) = Q' → Hid (Calls Try.prog 22 #[.pointer (some ⟨xb, 0, none⟩), .int .i64 a, .int .i64 (i : Int), .slice ua m uc] wr.drew fun e w' => e = .returned (.int .i64 er) ∧ OrdSt W w' v1 v2 (.slice (some ⟨cb, co, none⟩) n cc) C X i kb a b c d W.heap.size u12 P Q') := fun he hq => Lib.hid (by
        rw [HM.out] at he ⊢
        exact OrdSt.send HX.out XB.out HI.out HT.out (O.out.step (Below.refl _ _).drew) M ua uc (by rw [← HM.out]; exact HU.out) HW2.out (by rw [List.length_map]; exact he) hq)
      by_cases hz : m = 0
      · have g1 : decide (1 ≤ m) = false := decide_eq_false (by omega)
        have g3 : decide ((1 : Int) ≤ (m : Int)) = false := decide_eq_false (by omega)
        have g4 : decide (0 < m) = false := decide_eq_false (by omega)
        have SW := SN (er := 2) (Q' := P.map (·.2)) (by rw [if_neg (by omega)]) (by rw [if_neg (by decide)])
        clear SN hz
        go_wp2_with fail
        go_region_held3 (fun V => V.cell? ⟨kb, 0, none⟩ = some (.int .i64 a) ∧ V.cell? ⟨lb, lo + j, none⟩ = some (.slice ua m uc)) (first | exact ⟨k0, cl⟩ | exact ⟨z0, cz⟩)
          (first | (go_at_call 22; refine SW.out.mono ?_; rintro e w8 ⟨rfl, ho⟩; have O8 := Lib.hid ho; obtain ⟨z0, z1, z2, z3, -⟩ := box4 ho.kbox; have cz := CL.out _ ho.below; clear ho))
        clear k0 k1 k2 k3 cl
        go_wp2_with fail
        go_quiet (fail)
        obtain ⟨w9, hw9⟩ : ∃ w9, w9 = w8.drewN nq := ⟨_, rfl⟩
        have O9 := Lib.hid (show OrdSt W w9 v1 v2 (.slice (some ⟨cb, co, none⟩) n cc) C X i kb a b c d W.heap.size u12 P (P.map (·.2)) from by rw [hw9]; exact O8.out.step (below_drewN (Below.refl _ _) nq))
        obtain ⟨z0, z1, z2, z3, -⟩ := box4 O9.out.kbox
        have cz := CL.out _ O9.out.below
        have sv := O9.out.own
        rw [← hw9]
        clear hw9
        go_wp2
        go_roundw
        case rel => exact ⟨j + 1, P, by go_num, by omega, by omega, hpc, O9.out⟩
        case measure => simp [intOf]; omega
      by_cases hfit : d < m
      · have g1 : decide (1 ≤ m) = true := decide_eq_true (by omega)
        have g2 : decide (m ≤ d) = false := decide_eq_false (by omega)
        have g3 : decide ((1 : Int) ≤ (m : Int)) = true := decide_eq_true (by omega)
        have g4 : decide (0 < m) = true := decide_eq_true (by omega)
        have SW := SN (er := 2) (Q' := P.map (·.2)) (by rw [if_neg (by omega)]) (by rw [if_neg (by decide)])
        clear SN
        go_wp2_with fail
        go_region_held3 (fun V => V.cell? ⟨kb, 0, none⟩ = some (.int .i64 a) ∧ V.cell? ⟨lb, lo + j, none⟩ = some (.slice ua m uc)) (first | exact ⟨k0, cl⟩ | exact ⟨z0, cz⟩)
          (first | (go_at_call 22; refine SW.out.mono ?_; rintro e w8 ⟨rfl, ho⟩; have O8 := Lib.hid ho; obtain ⟨z0, z1, z2, z3, -⟩ := box4 ho.kbox; have cz := CL.out _ ho.below; clear ho))
        clear k0 k1 k2 k3 cl
        go_wp2_with fail
        go_quiet (fail)
        obtain ⟨w9, hw9⟩ : ∃ w9, w9 = w8.drewN nq := ⟨_, rfl⟩
        have O9 := Lib.hid (show OrdSt W w9 v1 v2 (.slice (some ⟨cb, co, none⟩) n cc) C X i kb a b c d W.heap.size u12 P (P.map (·.2)) from by rw [hw9]; exact O8.out.step (below_drewN (Below.refl _ _) nq))
        obtain ⟨z0, z1, z2, z3, -⟩ := box4 O9.out.kbox
        have cz := CL.out _ O9.out.below
        have sv := O9.out.own
        rw [← hw9]
        clear hw9
        go_wp2
        go_roundw
        case rel => exact ⟨j + 1, P, by go_num, by omega, by omega, hpc, O9.out⟩
        case measure => simp [intOf]; omega
      by_cases hfull : P.length < c
      · have g1 : decide (1 ≤ m) = true := decide_eq_true (by omega)
        have g2 : decide (m ≤ d) = true := decide_eq_true (by omega)
        have g3 : decide ((1 : Int) ≤ (m : Int)) = true := decide_eq_true (by omega)
        have g4 : decide (0 < m) = true := decide_eq_true (by omega)
        obtain ⟨sa, sc, hsv⟩ := owns_slice O.out.own
        obtain ⟨p, hp⟩ : ∃ p, p = P.length := ⟨_, rfl⟩
        rw [← hp] at hsv
        have HP := Lib.hid hp
        have g5 : decide (p < c) = true := decide_eq_true (by omega)
        have pc16 : p < 16 := by omega
        clear hp
        have SW := SN (er := 0) (Q' := P.map (·.2) ++ [M]) (by rw [if_pos (by omega), if_pos (by omega)]) (by rw [if_pos rfl])
        clear SN
        go_wp2_with fail
        go_region_held3 (fun V => V.cell? ⟨kb, 0, none⟩ = some (.int .i64 a) ∧ V.cell? ⟨lb, lo + j, none⟩ = some (.slice ua m uc)) (first | exact ⟨k0, cl⟩ | exact ⟨z0, cz⟩)
          (first | (go_at_call 22; refine SW.out.mono ?_; rintro e w8 ⟨rfl, ho⟩; have O8 := Lib.hid ho; obtain ⟨z0, z1, z2, z3, -⟩ := box4 ho.kbox; have cz := CL.out _ ho.below; clear ho))
        clear k0 k1 k2 k3 cl
        go_wp2_with fail
        go_quiet (fail)
        obtain ⟨w9, hw9⟩ : ∃ w9, w9 = w8.drewN nq := ⟨_, rfl⟩
        have O9 := Lib.hid (show OrdSt W w9 v1 v2 (.slice (some ⟨cb, co, none⟩) n cc) C X i kb a b c d W.heap.size u12 P (P.map (·.2) ++ [M]) from by rw [hw9]; exact O8.out.step (below_drewN (Below.refl _ _) nq))
        obtain ⟨z0, z1, z2, z3, -⟩ := box4 O9.out.kbox
        have cz := CL.out _ O9.out.below
        have sv := O9.out.own
        rw [← hw9]
        clear hw9
        have OO := Lib.hid sv
        have B9 := Lib.hid (below_step1 w9 (.cells #[.slice ua m uc] 43))
        have OA := Lib.hid (own_step OO.out B9.out)
        rw [← HP.out] at OA
        clear sv
        subst hsv
        go_wp2_with (first
          | (at_builtin; refine wpList_append_own _ rfl (.tmp 142) (.tmp 147) 64 rfl W.heap.size 43 ii (.slice none 0 0) 1 24 Try.underlying64 hi1 hi2 hi3 hi4 rfl (by decide) _ p _ rfl OA.out ⟨w9.heap.size, 0, none⟩ 1 1 [.slice ua m uc] rfl rfl (one_atG w9 _ _) (by simp [Value.oneCell']) (by unfold maxLen; omega) (by omega) (Nat.le_trans O9.out.below.size B9.out.size) ?_; intro v7 w10 ho hg _; have H10 := Lib.hid ho; have G10 := Lib.hid hg; clear ho hg))
        go_roundw
        case rel => exact ⟨j + 1, P ++ [(.slice ua m uc, M)], by go_num, by omega, by rw [List.length_append]; simp; have := HP.out; omega, by rw [List.length_append]; simp; have := HP.out; omega, by
          have := (O9.out.step B9.out).more G10.out (u := .slice ua m uc) (N := M) (by rw [← HP.out]; exact H10.out) HU.out (by have := HM.out; omega)
          rwa [← app_snd P (.slice ua m uc) M] at this⟩
        case measure => simp [intOf]; omega
      · have g1 : decide (1 ≤ m) = true := decide_eq_true (by omega)
        have g2 : decide (m ≤ d) = true := decide_eq_true (by omega)
        have g3 : decide ((1 : Int) ≤ (m : Int)) = true := decide_eq_true (by omega)
        have g4 : decide (0 < m) = true := decide_eq_true (by omega)
        obtain ⟨sa, sc, hsv⟩ := owns_slice O.out.own
        obtain ⟨p, hp⟩ : ∃ p, p = P.length := ⟨_, rfl⟩
        rw [← hp] at hsv
        have HP := Lib.hid hp
        have g5 : decide (p < c) = false := decide_eq_false (by omega)
        clear hp
        have SW := SN (er := 12) (Q' := P.map (·.2)) (by rw [if_pos (by omega), if_neg (by omega)]) (by rw [if_neg (by decide)])
        clear SN
        go_wp2_with fail
        go_region_held3 (fun V => V.cell? ⟨kb, 0, none⟩ = some (.int .i64 a) ∧ V.cell? ⟨lb, lo + j, none⟩ = some (.slice ua m uc)) (first | exact ⟨k0, cl⟩ | exact ⟨z0, cz⟩)
          (first | (go_at_call 22; refine SW.out.mono ?_; rintro e w8 ⟨rfl, ho⟩; have O8 := Lib.hid ho; obtain ⟨z0, z1, z2, z3, -⟩ := box4 ho.kbox; have cz := CL.out _ ho.below; clear ho))
        clear k0 k1 k2 k3 cl
        go_wp2_with fail
        go_quiet (fail)
        obtain ⟨w9, hw9⟩ : ∃ w9, w9 = w8.drewN nq := ⟨_, rfl⟩
        have O9 := Lib.hid (show OrdSt W w9 v1 v2 (.slice (some ⟨cb, co, none⟩) n cc) C X i kb a b c d W.heap.size u12 P (P.map (·.2)) from by rw [hw9]; exact O8.out.step (below_drewN (Below.refl _ _) nq))
        obtain ⟨z0, z1, z2, z3, -⟩ := box4 O9.out.kbox
        have cz := CL.out _ O9.out.below
        have sv := O9.out.own
        rw [← hw9]
        clear hw9
        subst hsv
        clear sv
        go_wp2
        go_roundw
        case rel => exact ⟨j + 1, P, by go_num, by omega, by omega, hpc, by have := O9.out; exact this⟩
        case measure => simp [intOf]; omega
    · obtain rfl : nl = j := by omega
      obtain ⟨sa, sc, hsv⟩ := owns_slice O.out.own
      obtain ⟨p, hp⟩ : ∃ p, p = P.length := ⟨_, rfl⟩
      rw [← hp] at hsv
      have HP := Lib.hid hp
      have p8 : p ≤ c := by omega
      obtain ⟨k0, k1, k2, k3, -⟩ := box4 O.out.kbox
      have RM := OrdSt.room HX.out XB.out HI.out HT.out (O.out.step (Below.refl _ _).drew)
      rw [List.length_map, ← hp] at RM
      have RM := Lib.hid RM
      subst hsv
      have r1 : (c : Int) - (p : Int) ≤ 8 := by omega
      have r2 : 0 ≤ (c : Int) - (p : Int) := by omega
      have r3 : IntKind.i64.wrap ((c : Int) - (p : Int)) = (c : Int) - (p : Int) := IntWalk.i64_in _ (by omega)
      clear hp hpj hpc SL O7
      go_wp2_with fail
      go_region_held3 (fun V => V.cell? ⟨kb, 2, none⟩ = some (.int .i64 (c : Int))) (first | exact k2 | exact z2)
        (first | (go_at_call 18; refine RM.out.mono ?_; rintro e w8 ⟨rfl, ho⟩; have O8 := Lib.hid ho; obtain ⟨z0, z1, z2, z3, -⟩ := box4 ho.kbox; clear ho))
      clear k0 k1 k2 k3 z0 z1 z2 z3 RM r1 r2 r3
      go_wp2_with fail
      go_loopw [16] (fun q wr => ∃ t : Nat, q = .int .i64 (t : Int) ∧ t ≤ p ∧ OrdSt W wr v1 v2 (.slice (some ⟨cb, co, none⟩) n cc) C X i kb a b c d W.heap.size (.slice sa p sc) P ((P.map (·.2)).drop t)) (fun q _ => (p - (intOf q).toNat))
      case atStart => exact ⟨0, rfl, Nat.zero_le _, O8.out⟩
      case round =>
        obtain ⟨t, rfl, ht, h⟩ := hrel
        have OT := Lib.hid h
        clear h
        obtain ⟨k0, k1, k2, k3, -⟩ := box4 OT.out.kbox
        by_cases hlt2 : t < p
        · obtain ⟨g, cap, he, hcell, hrow, h100⟩ := OT.out.at_ t (by have := HP.out; omega)
          obtain rfl := (Value.slice.inj he).1
          obtain ⟨N2, hN2⟩ : ∃ N2, N2 = (P.getD t default).2 := ⟨_, rfl⟩
          obtain ⟨u2, hu2⟩ : ∃ u2, u2 = (P.getD t default).1 := ⟨_, rfl⟩
          rw [← hN2, ← hu2] at hrow
          rw [← hN2] at h100
          have DR : (P.map (·.2)).drop t = N2 :: (P.map (·.2)).drop (t + 1) := by rw [hN2]; exact drop_sndH (by have := HP.out; omega)
          have CG : Hid (∀ (V : World) (M' : List (List Int)), OrdSt W V v1 v2 (.slice (some ⟨cb, co, none⟩) n cc) C X i kb a b c d W.heap.size (.slice (some ⟨g, 0, none⟩) p sc) P M' → V.cell? ⟨g, t, none⟩ = some u2) := Lib.hid fun V M' h => by
            obtain ⟨g', cap', he', hcell', -⟩ := h.at_ t (by have := HP.out; omega)
            have := (Value.slice.inj he').1
            injection this with this
            injection this with this
            subst this
            rw [hcell', hu2]
          have OT2 := OT.out
          rw [DR] at OT2
          have NX := Lib.hid (OrdSt.next_ok HX.out XB.out HI.out HT.out N2 OT2)
          have HR := Lib.hid hrow
          have H1 := Lib.hid h100
          obtain ⟨a2, c2, rfl, -⟩ := hrow
          obtain ⟨m2, hm2⟩ : ∃ m2, m2 = N2.length := ⟨_, rfl⟩
          rw [← hm2] at NX CG HR
          have HM2 := Lib.hid hm2
          clear he hcell hN2 hu2 DR OT2 hm2 h100
          go_wp2_with fail
          refine NX.out.mono ?_
          rintro e w9 ⟨rfl, ho⟩
          have RC2 := Lib.hid (OrdSt.recv_ok HX.out XB.out HI.out HT.out N2 ho)
          obtain ⟨k0, k1, k2, k3, -⟩ := box4 ho.kbox
          clear ho NX
          go_wp2_with fail
          refine RC2.out.mono ?_
          rintro e w10 ⟨u3, rfl, hm3, ho⟩
          have O10 := Lib.hid ho
          have cg := CG.out _ _ ho
          have SM := Lib.hid (same_yes u3 (.slice a2 m2 c2) N2 w10 (by have := H1.out; omega) hm3.row (HR.out.below ho.below))
          clear ho hm3 RC2 k0 k1 k2 k3
          go_wp2_with (go_at_call 24; refine SM.out.mono ?_; rintro e w11 ⟨rfl, hb⟩; have O11 := Lib.hid (O10.out.step hb); clear hb)
          go_roundw
          case rel => exact ⟨t + 1, by go_num, by omega, O11.out⟩
          case measure => simp [intOf]; omega
        · obtain rfl : p = t := by omega
          have hd0 : (P.map (·.2)).drop p = [] := List.drop_of_length_le (by rw [List.length_map]; exact Nat.le_of_eq HP.out.symm)
          have OT2 := OT.out
          rw [hd0] at OT2
          have RN := Lib.hid (OrdSt.recv_no HX.out XB.out HI.out HT.out OT2)
          clear OT2 hd0 hlt2
          go_wp2_with fail
          refine RN.out.mono ?_
          rintro e w9 ⟨u3, rfl, ho⟩
          have NN := Lib.hid (OrdSt.next_no HX.out XB.out HI.out HT.out ho)
          obtain ⟨k0, k1, k2, k3, -⟩ := box4 ho.kbox
          clear ho RN
          go_wp2_with fail
          refine NN.out.mono ?_
          rintro e w10 ⟨rfl, ho⟩
          have B10 := Lib.hid ho.below
          clear ho NN k0 k1 k2 k3
          go_wp2_with (go_at_call 9; refine (awake20 _).mono ?_; rintro e w11 ⟨rfl, hb⟩; have B11 := Lib.hid (B10.out.trans (hb.mono B10.out.size)); clear hb)
          go_ret
          exact ⟨rfl, B11.out⟩
end Go.Proofs.Ytnapodeiigkebaa
