/- The walk of the law SpaceBack. Condition: the listed tables lie as laid. Written by gen/gen_s60.py. -/
import Derived.Test.YtfpcoomkbmfchaaGreatDoorS56
import Derived.Test.YtfpcoomkbmfchaaGreatDoorS42
import Derived.Test.YtfpcoomkbmfchaaGreatDoorHY
namespace Go.Proofs.YtfpcoomkbmfchaaGreatDoor
open Go.RowKit Go.Maps
set_option maxRecDepth 100000

theorem back_far (q : Int) (m c : Nat) (a : Option Addr) (W : World) (h : q < 4 ∨ 60 < q ∨ 40 < m) (hL : LaidN W) : Calls Tryz.prog 5 #[.int .i64 q, .slice a m c] W fun e w' => e = .returned (.bool true) ∧ Below W.heap.size W w' := by
  have AW := Lib.hid (hL.awake W (Below.refl _ _))
  clear hL
  have h3 : decide (q < 4) = true ∨ (decide (q < 4) = false ∧ decide (60 < q) = true) ∨ (decide (q < 4) = false ∧ decide (60 < q) = false ∧ decide (40 < (m : Int)) = true) := by
    by_cases h1 : q < 4
    · exact Or.inl (decide_eq_true h1)
    · by_cases h2 : 60 < q
      · exact Or.inr (Or.inl ⟨decide_eq_false h1, decide_eq_true h2⟩)
      · exact Or.inr (Or.inr ⟨decide_eq_false h1, decide_eq_false h2, decide_eq_true (by omega)⟩)
  clear h
  rcases h3 with d0 | ⟨d0, d1⟩ | ⟨d0, d1, d2⟩
  all_goals
    go_enter Tryz.func5, Tryz.ntmps5
    go_wp2_with fail
    refine AW.out.mono ?_
    rintro e w1 ⟨rfl, hb⟩
    have B := Lib.hid hb
    clear hb
    go_wp2_with fail
    go_ret
    exact ⟨rfl, B.out⟩
set_option maxHeartbeats 16000000 in
theorem back_in (q : Nat) (S : List Op16) (v : Value) (W : World) (h4 : 4 ≤ q) (h60 : q ≤ 60) (hl : S.length ≤ 40) (hv : ArgOps16 W v S) (hL : LaidN W) : Calls Tryz.prog 5 #[.int .i64 (q : Int), v] W fun e w' => e = .returned (.bool true) ∧ Below W.heap.size W w' := by
  have MD := Lib.hid (madeS_ok q W (by omega) (by omega) hL.lq hL.lw)
  have AW := Lib.hid hL.awake
  obtain ⟨a, c, rfl, hlw, hc⟩ := hv
  obtain ⟨m, hm⟩ : ∃ m, m = S.length := ⟨_, rfl⟩
  have HN := Lib.hid hm
  have HC := Lib.hid hc
  have HW := Lib.hid hlw
  rw [← hm] at hl ⊢
  have d0 : decide ((q : Int) < 4) = false := decide_eq_false (by omega)
  have d1 : decide (60 < (q : Int)) = false := decide_eq_false (by omega)
  have d2 : decide (40 < (m : Int)) = false := decide_eq_false (by omega)
  clear hL hm hc hlw
  go_enter Tryz.func5, Tryz.ntmps5
  go_wp2_with fail
  refine MD.out.mono ?_
  rintro e w1 ⟨I, rfl, hf⟩
  have H1 := Lib.hid hf.any
  clear hf
  go_wp2_with fail
  clear d0 d1 d2
  go_loopw [9] (fun iv wr => ∃ j : Nat, iv = .int .i64 (j : Int) ∧ j ≤ m ∧ AnyS W wr I q) (fun iv _ => (m - (intOf iv).toNat))
  case atStart => exact ⟨0, rfl, Nat.zero_le _, H1.out⟩
  case round =>
    obtain ⟨j, rfl, hj, h⟩ := hrel
    have H3 := Lib.hid h
    clear h
    by_cases hlt : j < m
    · obtain ⟨b, o, rfl, hb, hcs⟩ := HC.out.resolve_left (by intro e; have := HN.out; rw [e] at this; simp at this; omega)
      have hkl : j < S.length := by have := HN.out; omega
      obtain ⟨⟨k, i, t, n, x, y, d, va, u⟩, hq⟩ : ∃ z, S.getD j default = z := ⟨_, rfl⟩
      have hcj := (hcs j hkl).below H3.out.below hb
      have O : Hid (WideOp k i t n x y va u) := Lib.hid (by
        have := HW.out _ (by rw [List.getD_eq_getElem?_getD, List.getElem?_eq_getElem hkl]; exact List.getElem_mem _ : S.getD j default ∈ S)
        rw [hq] at this; exact this)
      rw [hq] at hcj
      obtain ⟨g0, g1, g2, g3, g4, g5, g6, g7, g8⟩ := hcj
      simp only at g0 g1 g2 g3 g4 g5 g6 g7 g8
      obtain ⟨w4, hw4⟩ : ∃ w4, w4 = wr.alloc (.cells (opA k i t n x y d va u) 27) := ⟨_, rfl⟩
      have OB : Hid (w4.heap[wr.heap.size]? = some (.cells (opA k i t n x y d va u) 27 (0, 0))) := Lib.hid (by rw [hw4]; exact heap_alloc_new wr _)
      have H4 := Lib.hid (H3.out.step (w' := w4) (by rw [hw4]; exact (Below.refl _ _).alloc (Nat.le_refl _) _))
      clear hcs hb hkl hq
      obtain ⟨c4, D4, Q4, V4, Lb4, G4, hst⟩ := H4.out
      have S4 := Lib.hid hst
      clear hst
      by_cases e1 : k = 1
      · subst e1
        go_wp2_with fail
        rw [← hw4]
        refine (S4.out.didOpen i).mono ?_
        rintro e w5 ⟨er, rfl, -, -, hA⟩
        have A5 := Lib.hid hA
        clear hA hw4 g0 g1 g2 g3 g4 g5 g6 g7 g8
        go_wp2_with fail
        go_roundw
        case rel => exact ⟨j + 1, by go_num, by omega, A5.out⟩
        case measure => simp [intOf]; omega
      · skip
        by_cases e3 : k = 3
        · subst e3
          go_wp2_with fail
          rw [← hw4]
          refine (S4.out.didFork i t).mono ?_
          rintro e w5 ⟨er, rfl, -, -, hA⟩
          have A5 := Lib.hid hA
          clear hA hw4 g0 g1 g2 g3 g4 g5 g6 g7 g8
          go_wp2_with fail
          go_roundw
          case rel => exact ⟨j + 1, by go_num, by omega, A5.out⟩
          case measure => simp [intOf]; omega
        · skip
          by_cases e4 : k = 4
          · subst e4
            go_wp2_with fail
            rw [← hw4]
            refine (S4.out.didGrow i x y d O.out.wx O.out.wy).mono ?_
            rintro e w5 ⟨er, rfl, -, -, hA⟩
            have A5 := Lib.hid hA
            clear hA hw4 g0 g1 g2 g3 g4 g5 g6 g7 g8
            go_wp2_with fail
            go_roundw
            case rel => exact ⟨j + 1, by go_num, by omega, A5.out⟩
            case measure => simp [intOf]; omega
          · skip
            by_cases e5 : k = 5
            · subst e5
              go_wp2_with fail
              rw [← hw4]
              refine (S4.out.didShrink i x y O.out.wx O.out.wy).mono ?_
              rintro e w5 ⟨er, rfl, -, -, hA⟩
              have A5 := Lib.hid hA
              clear hA hw4 g0 g1 g2 g3 g4 g5 g6 g7 g8
              go_wp2_with fail
              go_roundw
              case rel => exact ⟨j + 1, by go_num, by omega, A5.out⟩
              case measure => simp [intOf]; omega
            · skip
              by_cases e8 : k = 8
              · subst e8
                go_wp2_with fail
                rw [← hw4]
                refine (S4.out.didStore i va u O.out.wv O.out.wu).mono ?_
                rintro e w5 ⟨er, rfl, -, -, hA⟩
                have A5 := Lib.hid hA
                clear hA hw4 g0 g1 g2 g3 g4 g5 g6 g7 g8
                go_wp2_with fail
                go_roundw
                case rel => exact ⟨j + 1, by go_num, by omega, A5.out⟩
                case measure => simp [intOf]; omega
              · skip
                by_cases e9 : k = 9
                · subst e9
                  go_wp2_with fail
                  rw [← hw4]
                  refine (S4.out.didReach i va n O.out.wv O.out.wn true).mono ?_
                  rintro e w5 ⟨er, rfl, -, -, hA⟩
                  have A5 := Lib.hid hA
                  clear hA hw4 g0 g1 g2 g3 g4 g5 g6 g7 g8
                  go_wp2_with fail
                  go_roundw
                  case rel => exact ⟨j + 1, by go_num, by omega, A5.out⟩
                  case measure => simp [intOf]; omega
                · skip
                  by_cases e10 : k = 10
                  · subst e10
                    go_wp2_with fail
                    rw [← hw4]
                    refine (S4.out.didCarve i t n).mono ?_
                    rintro e w5 ⟨er, rfl, -, -, hA⟩
                    have A5 := Lib.hid hA
                    clear hA hw4 g0 g1 g2 g3 g4 g5 g6 g7 g8
                    go_wp2_with fail
                    go_roundw
                    case rel => exact ⟨j + 1, by go_num, by omega, A5.out⟩
                    case measure => simp [intOf]; omega
                  · skip
                    have f1 : (k == 1) = false := by simpa using e1
                    have f3 : (k == 3) = false := by simpa using e3
                    have f4 : (k == 4) = false := by simpa using e4
                    have f5 : (k == 5) = false := by simpa using e5
                    have f8 : (k == 8) = false := by simpa using e8
                    have f9 : (k == 9) = false := by simpa using e9
                    have f10 : (k == 10) = false := by simpa using e10
                    clear e1 e3 e4 e5 e8 e9 e10
                    have A4 : Hid (AnyS W (wr.alloc (.cells (opA k i t n x y d va u) 27)) I q) := Lib.hid (by rw [← hw4]; exact H4.out)
                    clear hw4
                    go_wp2_with fail
                    go_roundw
                    case rel => exact ⟨j + 1, by go_num, by omega, A4.out⟩
                    case measure => simp [intOf]; omega
    · obtain rfl : j = m := by omega
      obtain ⟨c3, D3, Q3, V3, Lb3, G3, hst⟩ := H3.out
      have S3 := Lib.hid hst
      clear hst hlt hj hl
      go_wp2_with fail
      go_loopw [11] (fun pv wq => ∃ p : Nat, pv = .int .i64 (p : Int) ∧ 1 ≤ p ∧ p ≤ 9 ∧ ∃ c D Q V Lb G, Sta W wq I q c D Q V Lb G ow0 (PG G) ∧ ∀ l : Int, 1 ≤ l ∧ l < p → D l = none) (fun pv _ => (9 - (intOf pv).toNat))
      case atStart => exact ⟨1, rfl, by decide, by decide, _, _, _, _, _, _, S3.out, fun l hl => absurd hl (by omega)⟩
      case round =>
        obtain ⟨p, rfl, hp1, hp9, c5, D5, Q5, V5, Lb5, G5, hst, hD5⟩ := hrel
        have S5 := Lib.hid hst
        have N5 := Lib.hid hD5
        clear hst hD5
        by_cases hlt : p ≤ 8
        · have e8 : decide ((p : Int) ≤ 8) = true := decide_eq_true (by omega)
          go_wp2_with fail
          refine (S5.out.didClose (p : Int)).mono ?_
          rintro e w6 ⟨er, c6, D6, Q6, V6, Lb6, G6, rfl, hst, hn, hk⟩
          have S6 := Lib.hid hst
          have N6 : Hid (∀ l : Int, 1 ≤ l ∧ l < ((p + 1 : Nat) : Int) → D6 l = none) := Lib.hid fun l hl => by
            by_cases e : l = (p : Int)
            · rw [e]; exact hn
            · exact hk l (N5.out l (by omega))
          clear hst hn hk e8
          go_wp2_with fail
          go_roundw
          case rel => exact ⟨p + 1, by go_num, by omega, by omega, c6, D6, Q6, V6, Lb6, G6, S6.out, N6.out⟩
          case measure => simp [intOf]; omega
        · obtain rfl : p = 9 := by omega
          have E := Lib.hid (S5.out.j.empty fun l hl => N5.out l (by omega))
          have FL := Lib.hid (show ∀ V, Below wr.heap.size wr V → Calls Tryz.prog 32 #[.pointer (some ⟨I.X.pb, 0, none⟩), .int .i64 0] V fun e w' => e = .returned (.int .i64 (q : Int)) ∧ Below V.heap.size V w' from fun V hb => by
            have := (S5.out.step hb).bl.left
            rwa [E.out.1] at this)
          have AL := Lib.hid S5.out.bl.allB
          obtain ⟨r, hr⟩ : ∃ r, r = Lb5.length := ⟨_, rfl⟩
          have HR := Lib.hid hr
          have BB := Lib.hid S5.out.bl.below
          clear hr hlt hp1 hp9
          go_wp2_with fail
          refine AL.out.mono ?_
          rintro e w7 ⟨vl, rfl, ho, hb⟩
          have B7 := Lib.hid hb
          obtain ⟨al, cl, rfl, hg⟩ := NdSl.of_row ho
          have HG := Lib.hid hg
          have hr8 : r ≤ 8 := by have := S5.out.j.tree.good.len; have := HR.out; omega
          rw [← HR.out]
          clear ho hb hg
          go_wp2_with fail
          go_loopw [13] (fun sv ws => ∃ p : Nat, sv = .int .i64 (p : Int) ∧ p ≤ r ∧ Below w7.heap.size w7 ws) (fun sv _ => (r - (intOf sv).toNat))
          case atStart => exact ⟨0, rfl, Nat.zero_le _, Below.refl _ _⟩
          case round =>
            obtain ⟨p, rfl, hp, hB⟩ := hrel
            have B8 := Lib.hid hB
            by_cases hlt : p < r
            · obtain ⟨g, rfl, hg1, hg2⟩ := HG.out.resolve_left (by intro e; have := HR.out; rw [e] at this; simp at this; omega)
              have hpl : p < Lb5.length := by have := HR.out; omega
              have e3 := E.out.2 (Lb5.getD p default) (by rw [List.getD_eq_getElem?_getD, List.getElem?_eq_getElem hpl]; exact List.getElem_mem _)
              have c3 := (hB.cell (p := ⟨g, p * 4 + 3, none⟩) hg1).trans (hg2 p hpl).2.2.2
              rw [e3] at c3
              clear hB hg1 hg2 e3 hpl
              go_wp2_with fail
              go_roundw
              case rel => exact ⟨p + 1, by go_num, by omega, B8.out⟩
              case measure => simp [intOf]; omega
            · obtain rfl : p = r := by omega
              clear hB hlt
              go_wp2_with fail
              refine (FL.out _ (B7.out.trans (B8.out.mono B7.out.size))).mono ?_
              rintro e w9 ⟨rfl, hb⟩
              have B9 := Lib.hid (((BB.out.trans (B7.out.mono BB.out.size)).trans (B8.out.mono (BB.out.trans (B7.out.mono BB.out.size)).size)).trans (hb.mono ((BB.out.trans (B7.out.mono BB.out.size)).trans (B8.out.mono (BB.out.trans (B7.out.mono BB.out.size)).size)).size))
              clear hb
              go_wp2_with fail
              refine (AW.out _ B9.out).mono ?_
              rintro e w10 ⟨rfl, hb⟩
              have B10 := Lib.hid (B9.out.trans (hb.mono B9.out.size))
              clear hb
              go_wp2_with fail
              go_ret
              exact ⟨rfl, B10.out⟩
theorem spaceBack_walk (q : Int) (v : Value) (S : List Op16) (W : World) (hq : -9223372036854775808 ≤ q ∧ q ≤ 9223372036854775807) (hv : ArgOps16 W v S) (hL : LaidN W) : Calls Tryz.prog 5 #[.int .i64 q, v] W fun e w' => e = .returned (.bool true) ∧ Below W.heap.size W w' := by
  by_cases h : q < 4 ∨ 60 < q ∨ 40 < S.length
  · obtain ⟨a, c, rfl, _⟩ := hv
    exact back_far q S.length c a W h hL
  · obtain ⟨k, rfl⟩ : ∃ k : Nat, q = (k : Int) := ⟨q.toNat, by omega⟩
    exact back_in k S v W (by omega) (by omega) (by omega) hv hL
end Go.Proofs.YtfpcoomkbmfchaaGreatDoor
