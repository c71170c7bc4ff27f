/- The law PtablePlays: its walk. Condition: the listed tables read as laid. Written by tpl/gen_n53.py. -/
import Derived.Test.YtkcecfghfohjcaaDoorGU
namespace Go.Proofs.YtkcecfghfohjcaaDoor
open Go.RowKit Go.Maps
set_option maxRecDepth 100000
attribute [local irreducible] allF tabF plF mapB hasB segN

set_option maxHeartbeats 1000000 in
theorem plays_far (n : Int) (q c : Nat) (s : Option Addr) (W : World) (h : n < 1 ∨ (1 ≤ n ∧ 30 < n) ∨ (1 ≤ n ∧ n ≤ 30 ∧ 100 < q)) (hL : LaidN W) : Calls Tryd.prog 3 #[.int .i64 n, .slice s q c] W fun e w' => e = .returned (.bool true) ∧ Below W.heap.size W w' := by
  have HL := Lib.hid hL
  clear hL
  rcases h with h | ⟨h1, h⟩ | ⟨h1, h2, h⟩
  · have d0 : decide (n < 1) = true := decide_eq_true h
    go_enter Tryd.func3, Tryd.ntmps3
    go_wp2_with (go_at_call 9; refine (awake10 _ HL.out.lq HL.out.lw).mono ?_; rintro e w2 ⟨rfl, hb⟩; have B := Lib.hid hb; clear hb)
    go_ret
    exact ⟨rfl, B.out⟩
  · have d0 : decide (n < 1) = false := decide_eq_false (by omega)
    have d1 : decide (30 < n) = true := decide_eq_true h
    go_enter Tryd.func3, Tryd.ntmps3
    go_wp2_with (go_at_call 9; refine (awake10 _ HL.out.lq HL.out.lw).mono ?_; rintro e w2 ⟨rfl, hb⟩; have B := Lib.hid hb; clear hb)
    go_ret
    exact ⟨rfl, B.out⟩
  · have d0 : decide (n < 1) = false := decide_eq_false (by omega)
    have d1 : decide (30 < n) = false := decide_eq_false (by omega)
    have d2 : decide (100 < (q : Int)) = true := decide_eq_true (by omega)
    have d2' : decide (100 < q) = true := decide_eq_true (by omega)
    go_enter Tryd.func3, Tryd.ntmps3
    go_wp2_with (go_at_call 9; refine (awake10 _ HL.out.lq HL.out.lw).mono ?_; rintro e w2 ⟨rfl, hb⟩; have B := Lib.hid hb; clear hb)
    go_ret
    exact ⟨rfl, B.out⟩
/-- Where a round of the script begins. -/
def PlaysRel (W : World) (tb sb : Nat) (X : PIx) (m base wb lb n : Nat) (i : Value) (wr : World) : Prop :=
  ∃ (j c q : Nat) (Wf : Nat → Option Sp) (D : List Nat), i = .int .i64 (j : Int) ∧ j ≤ n ∧ q ≤ j ∧ D.length ≤ j ∧ PlSt W wr tb sb X m base wb lb Wf c Wf c q D
def PlaysRel2 (w7 : World) (q : Nat) (i : Value) (wr : World) : Prop := ∃ j : Nat, i = .int .i64 (j : Int) ∧ j ≤ q ∧ Below w7.heap.size w7 wr
set_option maxHeartbeats 4000000 in
theorem plays_in (m : Nat) (L : List Op10) (n cc : Nat) (aa : Option Addr) (W : World) (hm1 : 1 ≤ m) (hm30 : m ≤ 30) (hn : n = L.length) (hn100 : n ≤ 100) (hv : ArgOps10 W (.slice aa n cc) L) (hL : LaidN W) : Calls Tryd.prog 3 #[.int .i64 (m : Int), .slice aa n cc] W fun e w' => e = .returned (.bool true) ∧ Below W.heap.size W w' := by
  have HL := Lib.hid hL
  have HV := Lib.hid hv
  have HN := Lib.hid hn
  have d0 : decide ((m : Int) < 1) = false := decide_eq_false (by omega)
  have d0' : decide (m < 1) = false := decide_eq_false (by omega)
  have d1 : decide (30 < (m : Int)) = false := decide_eq_false (by omega)
  have d1' : decide (30 < m) = false := decide_eq_false (by omega)
  have d2 : decide (100 < (n : Int)) = false := decide_eq_false (by omega)
  have d2' : decide (100 < n) = false := decide_eq_false (by omega)
  have dm : IntKind.i64.wrap ((m : Int) + 2) = ((m + 2 : Nat) : Int) := (IntWalk.i64_in _ (by omega)).trans (by omega)
  clear hL hv hn
  go_enter Tryd.func3, Tryd.ntmps3
  go_wp2_with fail
  refine (made_sys m W (by omega) (by omega) HL.out.lq HL.out.lw).mono ?_
  rintro e w1 ⟨tb, sb, X, rfl, hs⟩
  have S1 := Lib.hid hs
  clear hs d0 d0' d1 d1' d2 d2'
  go_wp2_with fail
  obtain ⟨w2, hw2⟩ : ∃ w2, w2 = (w1.alloc (.cells #[.slice none 0 0, .int .i64 ((m : Int) + 2), .int .i64 (m : Int)] 31)).alloc (.cells #[.slice none 0 0] 32) := ⟨_, rfl⟩
  have K0 : Hid (PlSt W w2 tb sb X m w1.heap.size w1.heap.size (w1.heap.size + 1) (fun _ => none) m (fun _ => none) m 0 []) := Lib.hid (by
    have e2 : ((m + 2 : Nat) : Int) = (m : Int) + 2 := by omega
    exact S1.out.begin_ (by rw [hw2]; exact below_two w1 _ _) (by rw [hw2, e2]; exact heap_alloc2_old w1 _ _) (by rw [hw2]; exact heap_alloc2_new w1 _ _) (Nat.le_refl _) (Nat.le_succ _))
  rw [← hw2]
  obtain ⟨base, hbase⟩ : ∃ base, base = w1.heap.size := ⟨_, rfl⟩
  rw [← hbase] at K0 ⊢
  obtain ⟨lb, hlb⟩ : ∃ lb, lb = base + 1 := ⟨_, rfl⟩
  rw [← hlb] at K0 ⊢
  obtain ⟨wb, hwb⟩ : ∃ wb, wb = base := ⟨_, rfl⟩
  have K1 : Hid (PlSt W w2 tb sb X m base wb lb (fun _ => none) m (fun _ => none) m 0 []) := Lib.hid (by rw [hwb]; exact K0.out)
  rw [← hwb]
  clear hbase hlb hwb hw2 S1 K0 dm
  go_loopw [11] (fun i wr => PlaysRel W tb sb X m base wb lb n i wr) (fun i _ => (n - (intOf i).toNat))
  case atStart => exact ⟨0, m, 0, _, [], rfl, Nat.zero_le _, Nat.le_refl _, Nat.le_refl _, K1.out⟩
  case round =>
    obtain ⟨j, c, q, Wf, D, rfl, hj, hqj, hDj, hP⟩ := hrel
    have P0 := Lib.hid hP
    clear hP K1
    by_cases hlt : j < n
    · obtain ⟨bb, o, d, s, pg, ep, ex, ek, eg, rfl, hbl, ipg, hCB⟩ := HV.out.at_ HN.out hlt
      have CB := Lib.hid hCB
      have IPG := Lib.hid ipg
      have HBL := Lib.hid hbl
      clear hCB ipg hbl
      obtain ⟨y0, y1, y2, y3, y4, y5, y6⟩ := CB.out wr P0.out.sys.below
      clear y0 y1 y2 y3 y4 y5 y6
      go_upto_region 11 with fail
      go_cut [64] from 43 to 101 (fun v wx => v = .bool false ∧ ∃ c5 q5 Wf5 D5, PlSt W wx tb sb X m base wb lb Wf5 c5 Wf5 c5 q5 D5 ∧ q5 ≤ q + 1 ∧ D5.length ≤ D.length + 1)
      case first =>
        have P1 := Lib.hid (P0.out.step (Below.refl _ _).drew)
        obtain ⟨y0, y1, y2, y3, y4, y5, y6⟩ := CB.out wr P0.out.sys.below
        go_region_with (first
          | (go_at_call 11; refine (play_ok P1.out (by omega) (by omega) (by omega) d s pg ep ex ek eg IPG.out).mono ?_; rintro e w5 ⟨rfl, Wf5, c5, q5, D5, h5, hq5, hD5⟩; have P5 := Lib.hid h5; have HQ5 := Lib.hid hq5; have HD5 := Lib.hid hD5; obtain ⟨a6, cc6, K6, hR6, hM6, hU6, hq6⟩ := h5.ref; have R6 := Lib.hid hR6; obtain ⟨z0, z1, z2⟩ := cells3 hR6.box; obtain ⟨k6, hk6⟩ : ∃ k6, k6 = K6.length := ⟨_, rfl⟩; rw [← hk6] at z0; have HK6 := Lib.hid hk6; have hk100 : k6 ≤ 100 := (by omega); obtain ⟨U, hU⟩ : ∃ U, usedK K6 = U := ⟨_, rfl⟩; have HU := Lib.hid hU; have hsub : IntKind.i64.wrap ((m : Int) - (U : Int)) = (c5 : Int) := (IntWalk.i64_in _ (by omega)).trans (by omega); clear h5 hR6 hM6 hU6 hq6 hk6 hU hq5 hD5)
          | (go_at_call 12; refine P5.out.sys.left.mono ?_; rintro e w6 ⟨rfl, hb⟩; have B6 := Lib.hid hb; have P6 := Lib.hid (P5.out.step hb); have zz := cells3 (below_block hb R6.out.box); rw [← HK6.out] at zz; obtain ⟨z3, z4, z5⟩ := zz; clear hb)
          | (go_at_call 13; refine (rused_ok K6 a6 k6 cc6 (m + 2) m _ HK6.out hk100 (by rw [HK6.out]; exact (R6.out.step B6.out).spv)).mono ?_; rw [HU.out]; rintro e w7 ⟨rfl, hb⟩; have P7 := Lib.hid (P6.out.step hb); clear hb))
        all_goals
          go_wp2_with fail
          go_meet
          case rel => exact ⟨rfl, c5, q5, Wf5, D5, P7.out, HQ5.out, HD5.out⟩
      case rest =>
        obtain ⟨rfl, c5, q5, Wf5, D5, h5, hq5, hD5⟩ := hcut
        obtain ⟨w5, hw5⟩ : ∃ w5, w5 = wc := ⟨_, rfl⟩
        rw [← hw5] at h5 ⊢
        clear hw5
        have P5 := Lib.hid h5
        have HQ5 : Hid (q5 ≤ j + 1) := Lib.hid (by omega)
        have HD5 : Hid (D5.length ≤ j + 1) := Lib.hid (by omega)
        obtain ⟨y0, y1, y2, y3, y4, y5, y6⟩ := CB.out w5 P5.out.sys.below
        obtain ⟨al, cl, hl1, hl2⟩ := P5.out.row
        obtain ⟨nd, hnd⟩ : ∃ nd, nd = D5.length := ⟨_, rfl⟩
        rw [← hnd] at hl1 hl2
        have HND := Lib.hid hnd
        have HL2 := Lib.hid hl2
        have YK : Hid (∀ V, Below w5.heap.size w5 V → V.cell? ⟨lb, 0, none⟩ = some (.slice al nd cl) ∧ V.cell? ⟨bb, o + j * 7 + 1, none⟩ = some (.int .i64 s)) := Lib.hid fun V hV => by
          refine ⟨?_, (CB.out V (P5.out.step hV).sys.below).2.1⟩
          rw [cell_of_row _ _ _ _ _ _ (below_block hV hl1)]; rfl
        obtain ⟨r, hr⟩ : ∃ r, rootD D5 s = r := ⟨_, rfl⟩
        have HR := Lib.hid hr
        have IR : Hid (I64 r) := Lib.hid (by rw [← hr]; exact rootD_I64 P5.out.low (by omega) s)
        have z0 := (YK.out w5 (Below.refl _ _)).1
        clear h5 hq5 hD5 hl1 hl2 hnd hr
        go_wp2_with fail
        go_region_held3 (fun V => V.cell? ⟨lb, 0, none⟩ = some (.slice al nd cl) ∧ V.cell? ⟨bb, o + j * 7 + 1, none⟩ = some (.int .i64 s)) (first | exact YK.out _ (Below.refl _ _).drew | go_keep)
          (first
            | (go_at_call 14; refine (root_ok D5 al nd cl base s _ HND.out (own_step HL2.out (Below.refl _ _).drew)).mono ?_; rw [HR.out]; rintro e w1 ⟨rfl, rfl⟩))
        have P6 := Lib.hid (P5.out.step (Below.refl _ _).drew)
        obtain ⟨w6, hw6⟩ : ∃ w6, w6 = w5.drew := ⟨_, rfl⟩
        rw [← hw6] at P6 ⊢
        clear hw6 z0 y0 y1 y2 y3 y4 y5 y6 YK HL2
        obtain ⟨y0, y1, y2, y3, y4, y5, y6⟩ := CB.out w6 P6.out.sys.below
        obtain ⟨⟨up, ux, uk, ug⟩, hue⟩ : ∃ u, unmE' Wf5 r pg = u := ⟨_, rfl⟩
        have HUE := Lib.hid hue
        obtain ⟨dd, hdd⟩ : ∃ dd, decide (unmErr Wf5 r pg = 0) = dd := ⟨_, rfl⟩
        have HDD := Lib.hid hdd
        clear hue hdd
        go_wp2_with fail
        refine (P6.out.sys.query r pg IR.out IPG.out HUE.out).mono ?_
        rw [HDD.out]
        rintro e w7 ⟨rfl, hb⟩
        have P7 := Lib.hid (P6.out.step hb)
        clear hb y0 y1 y2 y3 y4 y5 y6
        go_upto_region 15 with fail
        obtain ⟨b7, hb7⟩ : ∃ b7, b7 = w7.heap.size := ⟨_, rfl⟩
        rw [← hb7]
        obtain ⟨w8, hw8⟩ : ∃ w8, w8 = w7.alloc (.cells #[.bool up, .bool ux, .bool uk, .int .i64 ug] 37) := ⟨_, rfl⟩
        have A8 : Hid (Below w7.heap.size w7 w8) := Lib.hid (by rw [hw8]; exact (Below.refl _ _).alloc (Nat.le_refl _) _)
        have E8 : Hid (w8.heap[b7]? = some (entO (up, ux, uk, ug))) := Lib.hid (by rw [hw8, hb7]; exact heap_alloc_new w7 _)
        rw [← hw8]
        have P8 := Lib.hid (P7.out.step A8.out)
        clear hw8 hb7
        obtain ⟨a6, cc6, K6, hR6, hM6, hU6, hq6⟩ := P8.out.ref
        obtain ⟨n2, hn2⟩ : ∃ n2, m + 2 = n2 := ⟨_, rfl⟩
        rw [hn2] at hR6
        obtain ⟨k6, hk6⟩ : ∃ k6, k6 = K6.length := ⟨_, rfl⟩
        have HK6 := Lib.hid hk6
        have M6 := Lib.hid hM6
        have hk100 : k6 ≤ 100 := by have := HQ5.out; omega
        have CW : Hid (∀ V, Below w8.heap.size w8 V → ((V.cell? ⟨wb, 0, none⟩ = some (.slice a6 k6 cc6) ∧ V.cell? ⟨wb, 1, none⟩ = some (.int .i64 (n2 : Int)) ∧ V.cell? ⟨wb, 2, none⟩ = some (.int .i64 (m : Int))) ∧ V.cell? ⟨bb, o + j * 7 + 2, none⟩ = some (.int .i64 pg)) ∧ SpV V (.slice a6 k6 cc6) K6) := Lib.hid fun V hV => by
          have h1 := hR6.step hV
          have h2 := cells3 h1.box
          have h3 := h1.spv
          rw [← hk6] at h2 h3
          exact ⟨⟨h2, (CB.out V (P8.out.step hV).sys.below).2.2.1⟩, h3⟩
        have hwb : w8.heap.size ≠ wb := by have := lt_of_block hR6.box; omega
        have hbb : w8.heap.size ≠ bb := by have := HBL.out; have := P8.out.sys.below.size; omega
        have hwb' : wb ≠ w8.heap.size := Ne.symm hwb
        have hbb' : bb ≠ w8.heap.size := Ne.symm hbb
        have HWB : Hid (wb < w8.heap.size) := Lib.hid (lt_of_block hR6.box)
        have HBB : Hid (bb < w8.heap.size) := Lib.hid (Nat.lt_of_lt_of_le HBL.out P8.out.sys.below.size)
        clear hR6 hM6 hU6 hq6 hk6 hn2
        obtain ⟨⟨⟨y0, y1, y2⟩, y3⟩, -⟩ := CW.out w8 (Below.refl _ _)
        go_cut [15, 16] from 43 to 101 (fun v15 v16 wx => ∃ b9, v15 = .pointer (some ⟨b9, 0, none⟩) ∧ v16 = .bool dd ∧ wx.heap[b9]? = some (entO (up, ux, uk, ug)) ∧ Below w8.heap.size w8 wx)
        case first =>
          go_region_held3 (fun V => (V.cell? ⟨wb, 0, none⟩ = some (.slice a6 k6 cc6) ∧ V.cell? ⟨wb, 1, none⟩ = some (.int .i64 (n2 : Int)) ∧ V.cell? ⟨wb, 2, none⟩ = some (.int .i64 (m : Int))) ∧ V.cell? ⟨bb, o + j * 7 + 2, none⟩ = some (.int .i64 pg)) (first
              | with_reducible exact (CW.out w9 B9.out).1
              | with_reducible exact (CW.out _ (Below.refl _ _).drew).1
              | with_reducible exact (CW.out _ ((Below.refl _ _).alloc (Nat.le_refl _) _).drew).1
              | with_reducible exact (CW.out _ (B9.out.alloc B9.out.size _)).1
              | with_reducible exact (CW.out _ B9p.out).1)
            (first
              | ((go_at_call 16; with_reducible refine (rquery_ok Wf5 K6 a6 k6 cc6 n2 m r pg w8.drew HK6.out hk100 (CW.out _ (Below.refl _ _).drew).2 M6.out HUE.out).mono ?_); rw [HDD.out]; rintro e w9 ⟨rfl, hb⟩; have B9 : Hid (Below w8.heap.size w8 w9) := Lib.hid ((Below.refl _ _).drew.trans hb); have ne1 : w9.heap.size ≠ wb := (by have := HWB.out; have := B9.out.size; omega); have ne2 : wb ≠ w9.heap.size := Ne.symm ne1; have ne3 : w9.heap.size ≠ bb := (by have := HBB.out; have := B9.out.size; omega); have ne4 : bb ≠ w9.heap.size := Ne.symm ne3; clear hb)
              | ((go_at_call 16; with_reducible refine (rquery_ok Wf5 K6 a6 k6 cc6 n2 m r pg (w8.alloc (.cells #[.bool false, .bool false, .bool false, .int .i64 0] 37)).drew HK6.out hk100 (CW.out _ ((Below.refl _ _).alloc (Nat.le_refl _) _).drew).2 M6.out HUE.out).mono ?_); rw [HDD.out]; rintro e w9 ⟨rfl, hb⟩; have B9 : Hid (Below w8.heap.size w8 w9) := Lib.hid (((Below.refl w8.heap.size w8).alloc (Nat.le_refl _) (.cells #[.bool false, .bool false, .bool false, .int .i64 0] 37)).drew.trans (hb.mono ((Below.refl w8.heap.size w8).alloc (Nat.le_refl _) (.cells #[.bool false, .bool false, .bool false, .int .i64 0] 37)).drew.size)); have E9 : Hid (w9.heap[w8.heap.size]? = some (entO z0)) := Lib.hid (below_block hb (heap_alloc_new w8 _)); have f0 := frozen_of_row _ w8.heap.size 0 _ _ E9.out; have f1 := frozen_of_row _ w8.heap.size 1 _ _ E9.out; have f2 := frozen_of_row _ w8.heap.size 2 _ _ E9.out; have f3 := frozen_of_row _ w8.heap.size 3 _ _ E9.out; have B9p : Hid (Below w8.heap.size w8 ((((w9.setCell ⟨w8.heap.size, 0, none⟩ (.bool up)).setCell ⟨w8.heap.size, 1, none⟩ (.bool ux)).setCell ⟨w8.heap.size, 2, none⟩ (.bool uk)).setCell ⟨w8.heap.size, 3, none⟩ (.int .i64 ug))) := Lib.hid (put4b_below (e' := (up, ux, uk, ug)) B9.out (Nat.le_refl _)); obtain ⟨e0, e1, e2, e3⟩ := cells4 (e := z0) E9.out; clear hb))
          all_goals
            go_wp2_with fail
            go_meet
            case rel => first | exact ⟨_, rfl, rfl, heap_alloc_new w9 _, B9.out.alloc B9.out.size _⟩ | exact ⟨_, rfl, rfl, put4b_same (e' := (up, ux, uk, ug)) E9.out, put4b_below (e' := (up, ux, uk, ug)) B9.out (Nat.le_refl _)⟩
        case rest =>
          obtain ⟨b9, rfl, rfl, hE9, hb⟩ := hcut
          obtain ⟨w10, hw10⟩ : ∃ w10, w10 = wc := ⟨_, rfl⟩
          rw [← hw10] at hE9 hb ⊢
          clear hw10 y0 y1 y2 y3
          obtain ⟨n0, n1, n2, n3⟩ := cells4 (below_block hb E8.out)
          obtain ⟨m0, m1, m2, m3⟩ := cells4 hE9
          simp only at n0 n1 n2 n3 m0 m1 m2 m3
          have P10 := Lib.hid (P8.out.step hb)
          clear hE9 hb
          go_wp2_with fail
          go_roundw
          case rel => exact ⟨j + 1, c5, q5, Wf5, D5, by go_num, by omega, HQ5.out, HD5.out, P10.out⟩
          case measure => simp [intOf]; omega
    · obtain rfl : j = n := by omega
      obtain ⟨w4, hw4⟩ : ∃ w4, w4 = wr := ⟨_, rfl⟩
      subst hw4
      obtain ⟨a6, cc6, K6, hR6, hM6, hU6, hq6⟩ := P0.out.ref
      obtain ⟨k6, hk6⟩ : ∃ k6, k6 = K6.length := ⟨_, rfl⟩
      have HK6 := Lib.hid hk6
      have M6 := Lib.hid hM6
      have R6 := Lib.hid hR6
      have hk100 : k6 ≤ 100 := by omega
      have CW : Hid (∀ V, Below w4.heap.size w4 V → V.cell? ⟨wb, 0, none⟩ = some (.slice a6 k6 cc6)) := Lib.hid fun V hV => by rw [hk6]; exact (cells3 (hR6.step hV).box).1
      clear hR6 hM6 hU6 hq6 hk6 hlt
      go_wp2_with fail
      go_loopw [17] (fun i w' => PlaysRel2 w4 k6 i w') (fun i _ => (k6 - (intOf i).toNat))
      case atStart => exact ⟨0, rfl, Nat.zero_le _, Below.refl _ _⟩
      case round =>
        obtain ⟨i, rfl, hi, hB⟩ := hrel
        have BB := Lib.hid hB
        have y0 := CW.out wr hB
        clear hB
        by_cases hlt2 : i < k6
        · obtain ⟨⟨r, F, u⟩, hy⟩ : ∃ y, K6.getD i default = y := ⟨_, rfl⟩
          have hik : i < K6.length := by rw [← HK6.out]; exact hlt2
          have hw := M6.out.has i hik
          rw [hy] at hw
          simp only at hw
          have hrm : r < m := by
            obtain ⟨L, R, S, O, k1, k2, k3⟩ := P0.out.sys.ex
            exact (k2.root r F hw).1
          have IR : Hid (I64 (r : Int)) := Lib.hid ⟨by omega, by omega⟩
          have HALL : Hid (allW Wf (r : Int) = allF F) := Lib.hid (by unfold allW; rw [spOf_nat, hw])
          have HTAB : Hid (tabW Wf (r : Int) = tabF F) := Lib.hid (by unfold tabW; rw [spOf_nat, hw])
          obtain ⟨au, cu, hue⟩ := owns_slice (R6.out.maps i hik)
          rw [hy] at hue
          simp only at hue
          obtain ⟨bL, rfl, hbl, hc1, hc2, hmp⟩ := (show SpV w4 (.slice a6 k6 cc6) K6 by rw [HK6.out]; exact R6.out.spv).at_ HK6.out hlt2 hy
          obtain ⟨N, hN⟩ : ∃ N, (allF F).length = N := ⟨_, rfl⟩
          have HN2 := Lib.hid hN
          rw [hN] at hue
          subst hue
          have CX : Hid (∀ V, Below w4.heap.size w4 V → (V.cell? ⟨wb, 0, none⟩ = some (.slice (some ⟨bL, 0, none⟩) k6 cc6) ∧ V.cell? ⟨bL, i * 2, none⟩ = some (.int .i64 (r : Int)) ∧ V.cell? ⟨bL, i * 2 + 1, none⟩ = some (.slice au N cu)) ∧ MapsAt V (.slice au N cu) (allF F)) := Lib.hid fun V hV => ⟨⟨CW.out V hV, (hV.cell (p := ⟨bL, _, none⟩) hbl).trans hc1, (hV.cell (p := ⟨bL, _, none⟩) hbl).trans hc2⟩, hmp.below hV⟩
          have hN1024 : (allF F).length ≤ 1024 := allF_len F
          have hikI : (i : Int) < (k6 : Int) := by omega
          obtain ⟨tt, htt⟩ : ∃ tt, tabF F = tt := ⟨_, rfl⟩
          have HTT := Lib.hid htt
          have D0 : Hid (Below w4.heap.size w4 wr.drew) := Lib.hid BB.out.drew
          clear hw hy hc1 hc2 hmp hN htt hik y0
          obtain ⟨⟨y0, y1, y2⟩, -⟩ := CX.out wr BB.out
          go_wp2_with fail
          go_region_held3 (fun V => V.cell? ⟨wb, 0, none⟩ = some (.slice (some ⟨bL, 0, none⟩) k6 cc6) ∧ V.cell? ⟨bL, i * 2, none⟩ = some (.int .i64 (r : Int)) ∧ V.cell? ⟨bL, i * 2 + 1, none⟩ = some (.slice au N cu)) (first | with_reducible exact (CX.out _ D0.out).1 | with_reducible exact (CX.out w5 B5.out).1 | with_reducible exact (CX.out w6 B6.out).1 | with_reducible exact (CX.out w7 B7.out).1 | with_reducible exact (CX.out w8 B8.out).1)
            (first
              | (go_at_call 18; refine ((P0.out.step D0.out).sys.all (r : Int) IR.out).mono ?_; rw [HALL.out]; rintro e w5 ⟨v, rfl, ho, hb⟩; have B5 := Lib.hid (D0.out.trans (hb.mono D0.out.size)); have V5 := Lib.hid (MapsAt.of_row ho); obtain ⟨a5, c5, rfl⟩ := owns_slice ho; clear ho hb)
              | (go_at_call 17; refine (same_yes (allF F) _ _ _ hN1024 V5.out (CX.out w5 B5.out).2).mono ?_; rintro e w6 ⟨rfl, hb⟩; have B6 := Lib.hid (B5.out.trans (hb.mono B5.out.size)); clear hb)
              | (go_at_call 19; refine ((P0.out.step B6.out).sys.tables (r : Int) IR.out).mono ?_; rw [HTAB.out, HTT.out]; rintro e w7 ⟨rfl, hb⟩; have B7 := Lib.hid (B6.out.trans (hb.mono B6.out.size)); clear hb)
              | (go_at_call 20; refine (rtables_ok F _ w7 (CX.out w7 B7.out).2).mono ?_; rw [HTT.out]; rintro e w8 ⟨rfl, hb⟩; have B8 := Lib.hid (B7.out.trans (hb.mono B7.out.size)); clear hb))
          clear y0 y1 y2
          go_wp2_with fail
          go_roundw
          case rel => exact ⟨i + 1, by go_num, by omega, B8.out⟩
          case measure => simp [intOf]; omega
        · obtain rfl : i = k6 := by omega
          have P9 := Lib.hid (P0.out.step BB.out)
          go_wp2_with (go_at_call 9; refine (awake10 _ (HL.out.lq.below P9.out.sys.below) (HL.out.lw.below P9.out.sys.below)).mono ?_; rintro e w9 ⟨rfl, hb⟩; have B9 := Lib.hid (P9.out.sys.below.trans (hb.mono P9.out.sys.below.size)); clear hb)
          go_ret
          exact ⟨rfl, B9.out⟩
theorem ptablePlays_walk (n : Int) (v : Value) (L : List Op10) (W : World) (_ : I64 n) (hv : ArgOps10 W v L) (hL : LaidN W) : Calls Tryd.prog 3 #[.int .i64 n, v] W fun e w' => e = .returned (.bool true) ∧ Below W.heap.size W w' := by
  have hv' := hv
  obtain ⟨a, c, rfl, _⟩ := hv
  by_cases h : 1 ≤ n ∧ n ≤ 30 ∧ L.length ≤ 100
  · obtain ⟨h1, h2, h3⟩ := h
    obtain ⟨m, rfl⟩ := Int.eq_ofNat_of_zero_le (show 0 ≤ n by omega)
    exact plays_in m L L.length c a W (by omega) (by omega) rfl h3 hv' hL
  · exact plays_far n L.length c a W (by omega) hL
end Go.Proofs.YtkcecfghfohjcaaDoor
