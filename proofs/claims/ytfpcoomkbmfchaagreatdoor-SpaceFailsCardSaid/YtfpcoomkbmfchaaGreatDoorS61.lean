/- The walk of the law SpaceFails. Condition: the listed tables lie as laid. Written by gen/gen_s60.py. -/
import Derived.Test.YtfpcoomkbmfchaaGreatDoorS56
import Derived.Test.YtfpcoomkbmfchaaGreatDoorS42
import Derived.Test.YtfpcoomkbmfchaaGreatDoorHY
namespace Go.Proofs.YtfpcoomkbmfchaaGreatDoor
open Go.RowKit Go.Maps
set_option maxRecDepth 100000

theorem fails_far (q : Int) (m c : Nat) (a : Option Addr) (W : World) (h : q < 1 ∨ 60 < q ∨ 40 < m) (hL : LaidN W) : Calls Tryz.prog 6 #[.int .i64 q, .slice a m c] W fun e w' => e = .returned (.bool true) ∧ Below W.heap.size W w' := by
  have AW := Lib.hid (hL.awake W (Below.refl _ _))
  clear hL
  have h3 : decide (q < 1) = true ∨ (decide (q < 1) = false ∧ decide (60 < q) = true) ∨ (decide (q < 1) = false ∧ decide (60 < q) = false ∧ decide (40 < (m : Int)) = true) := by
    by_cases h1 : q < 1
    · exact Or.inl (decide_eq_true h1)
    · by_cases h2 : 60 < q
      · exact Or.inr (Or.inl ⟨decide_eq_false h1, decide_eq_true h2⟩)
      · exact Or.inr (Or.inr ⟨decide_eq_false h1, decide_eq_false h2, decide_eq_true (by omega)⟩)
  clear h
  rcases h3 with d0 | ⟨d0, d1⟩ | ⟨d0, d1, d2⟩
  all_goals
    go_enter Tryz.func6, Tryz.ntmps6
    go_wp2_with fail
    refine AW.out.mono ?_
    rintro e w1 ⟨rfl, hb⟩
    have B := Lib.hid hb
    clear hb
    go_wp2_with fail
    go_ret
    exact ⟨rfl, B.out⟩
set_option maxHeartbeats 16000000 in
theorem fails_in (q : Nat) (S : List Op16) (v : Value) (W : World) (h1 : 1 ≤ q) (h60 : q ≤ 60) (hl : S.length ≤ 40) (hv : ArgOps16 W v S) (hL : LaidN W) : Calls Tryz.prog 6 #[.int .i64 (q : Int), v] W fun e w' => e = .returned (.bool true) ∧ Below W.heap.size W w' := by
  have MD := Lib.hid (madeS_ok q W (by omega) (by omega) hL.lq hL.lw)
  have AW := Lib.hid hL.awake
  obtain ⟨a, c, rfl, hlw, hc⟩ := hv
  obtain ⟨m, hm⟩ : ∃ m, m = S.length := ⟨_, rfl⟩
  have HN := Lib.hid hm
  have HC := Lib.hid hc
  have HW := Lib.hid hlw
  rw [← hm] at hl ⊢
  have d0 : decide ((q : Int) < 1) = false := decide_eq_false (by omega)
  have d1 : decide (60 < (q : Int)) = false := decide_eq_false (by omega)
  have d2 : decide (40 < (m : Int)) = false := decide_eq_false (by omega)
  clear hL hm hc hlw
  go_enter Tryz.func6, Tryz.ntmps6
  go_wp2_with fail
  refine MD.out.mono ?_
  rintro e w1 ⟨I, rfl, hf⟩
  have H1 := Lib.hid hf.any
  clear hf
  go_wp2_with fail
  clear d0 d1 d2
  go_loopw [9] (fun iv wr => ∃ j : Nat, iv = .int .i64 (j : Int) ∧ j ≤ m ∧ AnyS W wr I q) (fun iv _ => (m - (intOf iv).toNat))
  case atStart => exact ⟨0, rfl, Nat.zero_le _, H1.out⟩
  case round =>
    obtain ⟨j, rfl, hj, h⟩ := hrel
    have H3 := Lib.hid h
    clear h
    by_cases hlt : j < m
    · obtain ⟨b, o, rfl, hb, hcs⟩ := HC.out.resolve_left (by intro e; have := HN.out; rw [e] at this; simp at this; omega)
      have hkl : j < S.length := by have := HN.out; omega
      obtain ⟨⟨k, i, t, n, x, y, d, va, u⟩, hq⟩ : ∃ z, S.getD j default = z := ⟨_, rfl⟩
      have hcj := (hcs j hkl).below H3.out.below hb
      have O : Hid (WideOp k i t n x y va u) := Lib.hid (by
        have := HW.out _ (by rw [List.getD_eq_getElem?_getD, List.getElem?_eq_getElem hkl]; exact List.getElem_mem _ : S.getD j default ∈ S)
        rw [hq] at this; exact this)
      rw [hq] at hcj
      obtain ⟨g0, g1, g2, g3, g4, g5, g6, g7, g8⟩ := hcj
      simp only at g0 g1 g2 g3 g4 g5 g6 g7 g8
      obtain ⟨w4, hw4⟩ : ∃ w4, w4 = wr.alloc (.cells (opA k i t n x y d va u) 27) := ⟨_, rfl⟩
      have OB : Hid (w4.heap[wr.heap.size]? = some (.cells (opA k i t n x y d va u) 27 (0, 0))) := Lib.hid (by rw [hw4]; exact heap_alloc_new wr _)
      have H4 := Lib.hid (H3.out.step (w' := w4) (by rw [hw4]; exact (Below.refl _ _).alloc (Nat.le_refl _) _))
      clear hcs hb hkl hq
      go_wp2_with fail
      rw [← hw4]
      clear hw4 g0 g1 g2 g3 g4 g5 g6 g7 g8
      obtain ⟨c4, D4, Q4, V4, Lb4, G4, hst⟩ := H4.out
      obtain ⟨l4, hl4⟩ : ∃ l4, leftL Lb4 i = l4 := ⟨_, rfl⟩
      obtain ⟨m4, hm4⟩ : ∃ m4, (pgL fun p => prD D4 i p).length = m4 := ⟨_, rfl⟩
      obtain ⟨a4, ha4⟩ : ∃ a4, lenA G4 i = a4 := ⟨_, rfl⟩
      have OBS : Hid (∀ V, Sta W V I q c4 D4 Q4 V4 Lb4 G4 ow0 (PG G4) → Obs I i l4 c4 m4 a4 V) := Lib.hid fun V hV => hV.obs hl4 hm4 ha4
      have S4 := Lib.hid hst
      have DR : Hid (Below w4.heap.size w4 w4.drew) := Lib.hid (Below.refl _ _).drew
      have CI : Hid (∀ V, Below w4.heap.size w4 V → V.cell? ⟨wr.heap.size, 1, none⟩ = some (.int .i64 i)) := Lib.hid fun V hb => by rw [cell_of_row _ _ _ _ _ _ (below_block hb OB.out)]; rfl
      clear hst hl4 hm4 ha4
      go_wp2_with fail
      go_region_held3 (fun V => V.cell? ⟨wr.heap.size, 1, none⟩ = some (.int .i64 i)) (first | with_reducible exact CI.out _ DR.out | with_reducible exact CI.out w5 B5.out | with_reducible exact CI.out w6 B6.out | with_reducible exact CI.out w7 B7.out | with_reducible exact CI.out w8 B8.out)
        (first
          | (go_at_call 33; with_reducible refine (OBS.out _ (S4.out.step DR.out)).left.mono ?_; rintro e w5 ⟨rfl, hb⟩; have B5 := Lib.hid (DR.out.trans (hb.mono DR.out.size)); clear hb)
          | (go_at_call 32; with_reducible refine (OBS.out _ (S4.out.step B5.out)).free.mono ?_; rintro e w6 ⟨rfl, hb⟩; have B6 := Lib.hid (B5.out.trans (hb.mono B5.out.size)); clear hb)
          | (go_at_call 22; with_reducible refine (OBS.out _ (S4.out.step B6.out)).mapped.mono ?_; rintro e w7 ⟨x7, y7, rfl, hb⟩; have B7 := Lib.hid (B6.out.trans (hb.mono B6.out.size)); clear hb)
          | (go_at_call 21; with_reducible refine (OBS.out _ (S4.out.step B7.out)).areas.mono ?_; rintro e w8 ⟨x8, y8, rfl, hb⟩; have B8 := Lib.hid (B7.out.trans (hb.mono B7.out.size)); clear hb))
      have S8 := Lib.hid (S4.out.step B8.out)
      have ob8 := below_block B8.out OB.out
      have OB8 := Lib.hid ob8
      have d0 : w8.cell? ⟨wr.heap.size, 0, none⟩ = some (.int .i64 k) := by rw [cell_of_row _ _ _ _ _ _ ob8]; rfl
      have d1 : w8.cell? ⟨wr.heap.size, 1, none⟩ = some (.int .i64 i) := by rw [cell_of_row _ _ _ _ _ _ ob8]; rfl
      have d2 : w8.cell? ⟨wr.heap.size, 2, none⟩ = some (.int .i64 t) := by rw [cell_of_row _ _ _ _ _ _ ob8]; rfl
      have d3 : w8.cell? ⟨wr.heap.size, 3, none⟩ = some (.int .i64 n) := by rw [cell_of_row _ _ _ _ _ _ ob8]; rfl
      have d4 : w8.cell? ⟨wr.heap.size, 4, none⟩ = some (.int .i64 x) := by rw [cell_of_row _ _ _ _ _ _ ob8]; rfl
      have d5 : w8.cell? ⟨wr.heap.size, 5, none⟩ = some (.int .i64 y) := by rw [cell_of_row _ _ _ _ _ _ ob8]; rfl
      have d6 : w8.cell? ⟨wr.heap.size, 6, none⟩ = some (.bool d) := by rw [cell_of_row _ _ _ _ _ _ ob8]; rfl
      have d7 : w8.cell? ⟨wr.heap.size, 7, none⟩ = some (.int .u32 va) := by rw [cell_of_row _ _ _ _ _ _ ob8]; rfl
      have d8 : w8.cell? ⟨wr.heap.size, 8, none⟩ = some (.int .u32 u) := by rw [cell_of_row _ _ _ _ _ _ ob8]; rfl
      have z1 : (l4 != l4) = false := by simp
      have z2 : ((c4 : Int) != (c4 : Int)) = false := by simp
      have z3 : ((m4 : Int) != (m4 : Int)) = false := by simp
      have z4 : ((a4 : Int) != (a4 : Int)) = false := by simp
      clear ob8
      by_cases e1 : k = 1
      · as_aux_lemma =>
          subst e1
          go_wp2_with fail
          refine (S8.out.didOpen i).mono ?_
          rintro e w9 ⟨er, rfl, hk, hS, hA⟩
          have A9 := Lib.hid hA
          have OB9 := Lib.hid (hk.box OB8.out (by decide))
          clear hA hk d0 d1 d2 d3 d4 d5 d6 d7 d8
          by_cases hz : er = 0
          · subst hz
            clear hS
            go_wp2_with fail
            go_roundw
            case rel => exact ⟨j + 1, by go_num, by omega, A9.out⟩
            case measure => simp [intOf]; omega
          · have S9 := Lib.hid (hS hz)
            have nz : (er != 0) = true := by simpa using hz
            have CJ : Hid (∀ V, Below w9.heap.size w9 V → V.cell? ⟨wr.heap.size, 1, none⟩ = some (.int .i64 i)) := Lib.hid fun V hb => by rw [cell_of_row _ _ _ _ _ _ (below_block hb OB9.out)]; rfl
            have k1 := CJ.out w9 (Below.refl _ _)
            clear hS hz
            go_wp2_with fail
            refine (OBS.out _ S9.out).left.mono ?_
            rintro e w10 ⟨rfl, hb⟩
            have B10 := Lib.hid hb
            clear hb k1
            go_wp2_with fail
            refine (OBS.out _ (S9.out.step B10.out)).free.mono ?_
            rintro e w11 ⟨rfl, hb⟩
            have B11 := Lib.hid (B10.out.trans (hb.mono B10.out.size))
            have k1 := CJ.out w11 B11.out
            clear hb
            go_wp2_with fail
            refine (OBS.out _ (S9.out.step B11.out)).mapped.mono ?_
            rintro e w12 ⟨x12, y12, rfl, hb⟩
            have B12 := Lib.hid (B11.out.trans (hb.mono B11.out.size))
            clear k1
            have k1 := CJ.out w12 B12.out
            clear hb
            go_wp2_with fail
            refine (OBS.out _ (S9.out.step B12.out)).areas.mono ?_
            rintro e w13 ⟨x13, y13, rfl, hb⟩
            have A13 := Lib.hid (A9.out.step (B12.out.trans (hb.mono B12.out.size)))
            clear k1 hb
            go_wp2_with fail
            go_roundw
            case rel => exact ⟨j + 1, by go_num, by omega, A13.out⟩
            case measure => simp [intOf]; omega
      · skip
        by_cases e3 : k = 3
        · as_aux_lemma =>
            subst e3
            go_wp2_with fail
            refine (S8.out.didFork i t).mono ?_
            rintro e w9 ⟨er, rfl, hk, hS, hA⟩
            have A9 := Lib.hid hA
            have OB9 := Lib.hid (hk.box OB8.out (by decide))
            clear hA hk d0 d1 d2 d3 d4 d5 d6 d7 d8
            by_cases hz : er = 0
            · subst hz
              clear hS
              go_wp2_with fail
              go_roundw
              case rel => exact ⟨j + 1, by go_num, by omega, A9.out⟩
              case measure => simp [intOf]; omega
            · have S9 := Lib.hid (hS hz)
              have nz : (er != 0) = true := by simpa using hz
              have CJ : Hid (∀ V, Below w9.heap.size w9 V → V.cell? ⟨wr.heap.size, 1, none⟩ = some (.int .i64 i)) := Lib.hid fun V hb => by rw [cell_of_row _ _ _ _ _ _ (below_block hb OB9.out)]; rfl
              have k1 := CJ.out w9 (Below.refl _ _)
              clear hS hz
              go_wp2_with fail
              refine (OBS.out _ S9.out).left.mono ?_
              rintro e w10 ⟨rfl, hb⟩
              have B10 := Lib.hid hb
              clear hb k1
              go_wp2_with fail
              refine (OBS.out _ (S9.out.step B10.out)).free.mono ?_
              rintro e w11 ⟨rfl, hb⟩
              have B11 := Lib.hid (B10.out.trans (hb.mono B10.out.size))
              have k1 := CJ.out w11 B11.out
              clear hb
              go_wp2_with fail
              refine (OBS.out _ (S9.out.step B11.out)).mapped.mono ?_
              rintro e w12 ⟨x12, y12, rfl, hb⟩
              have B12 := Lib.hid (B11.out.trans (hb.mono B11.out.size))
              clear k1
              have k1 := CJ.out w12 B12.out
              clear hb
              go_wp2_with fail
              refine (OBS.out _ (S9.out.step B12.out)).areas.mono ?_
              rintro e w13 ⟨x13, y13, rfl, hb⟩
              have A13 := Lib.hid (A9.out.step (B12.out.trans (hb.mono B12.out.size)))
              clear k1 hb
              go_wp2_with fail
              go_roundw
              case rel => exact ⟨j + 1, by go_num, by omega, A13.out⟩
              case measure => simp [intOf]; omega
        · skip
          by_cases e4 : k = 4
          · as_aux_lemma =>
              subst e4
              go_wp2_with fail
              refine (S8.out.didGrow i x y d O.out.wx O.out.wy).mono ?_
              rintro e w9 ⟨er, rfl, hk, hS, hA⟩
              have A9 := Lib.hid hA
              have OB9 := Lib.hid (hk.box OB8.out (by decide))
              clear hA hk d0 d1 d2 d3 d4 d5 d6 d7 d8
              by_cases hz : er = 0
              · subst hz
                clear hS
                go_wp2_with fail
                go_roundw
                case rel => exact ⟨j + 1, by go_num, by omega, A9.out⟩
                case measure => simp [intOf]; omega
              · have S9 := Lib.hid (hS hz)
                have nz : (er != 0) = true := by simpa using hz
                have CJ : Hid (∀ V, Below w9.heap.size w9 V → V.cell? ⟨wr.heap.size, 1, none⟩ = some (.int .i64 i)) := Lib.hid fun V hb => by rw [cell_of_row _ _ _ _ _ _ (below_block hb OB9.out)]; rfl
                have k1 := CJ.out w9 (Below.refl _ _)
                clear hS hz
                go_wp2_with fail
                refine (OBS.out _ S9.out).left.mono ?_
                rintro e w10 ⟨rfl, hb⟩
                have B10 := Lib.hid hb
                clear hb k1
                go_wp2_with fail
                refine (OBS.out _ (S9.out.step B10.out)).free.mono ?_
                rintro e w11 ⟨rfl, hb⟩
                have B11 := Lib.hid (B10.out.trans (hb.mono B10.out.size))
                have k1 := CJ.out w11 B11.out
                clear hb
                go_wp2_with fail
                refine (OBS.out _ (S9.out.step B11.out)).mapped.mono ?_
                rintro e w12 ⟨x12, y12, rfl, hb⟩
                have B12 := Lib.hid (B11.out.trans (hb.mono B11.out.size))
                clear k1
                have k1 := CJ.out w12 B12.out
                clear hb
                go_wp2_with fail
                refine (OBS.out _ (S9.out.step B12.out)).areas.mono ?_
                rintro e w13 ⟨x13, y13, rfl, hb⟩
                have A13 := Lib.hid (A9.out.step (B12.out.trans (hb.mono B12.out.size)))
                clear k1 hb
                go_wp2_with fail
                go_roundw
                case rel => exact ⟨j + 1, by go_num, by omega, A13.out⟩
                case measure => simp [intOf]; omega
          · skip
            by_cases e5 : k = 5
            · as_aux_lemma =>
                subst e5
                go_wp2_with fail
                refine (S8.out.didShrink i x y O.out.wx O.out.wy).mono ?_
                rintro e w9 ⟨er, rfl, hk, hS, hA⟩
                have A9 := Lib.hid hA
                have OB9 := Lib.hid (hk.box OB8.out (by decide))
                clear hA hk d0 d1 d2 d3 d4 d5 d6 d7 d8
                by_cases hz : er = 0
                · subst hz
                  clear hS
                  go_wp2_with fail
                  go_roundw
                  case rel => exact ⟨j + 1, by go_num, by omega, A9.out⟩
                  case measure => simp [intOf]; omega
                · have S9 := Lib.hid (hS hz)
                  have nz : (er != 0) = true := by simpa using hz
                  have CJ : Hid (∀ V, Below w9.heap.size w9 V → V.cell? ⟨wr.heap.size, 1, none⟩ = some (.int .i64 i)) := Lib.hid fun V hb => by rw [cell_of_row _ _ _ _ _ _ (below_block hb OB9.out)]; rfl
                  have k1 := CJ.out w9 (Below.refl _ _)
                  clear hS hz
                  go_wp2_with fail
                  refine (OBS.out _ S9.out).left.mono ?_
                  rintro e w10 ⟨rfl, hb⟩
                  have B10 := Lib.hid hb
                  clear hb k1
                  go_wp2_with fail
                  refine (OBS.out _ (S9.out.step B10.out)).free.mono ?_
                  rintro e w11 ⟨rfl, hb⟩
                  have B11 := Lib.hid (B10.out.trans (hb.mono B10.out.size))
                  have k1 := CJ.out w11 B11.out
                  clear hb
                  go_wp2_with fail
                  refine (OBS.out _ (S9.out.step B11.out)).mapped.mono ?_
                  rintro e w12 ⟨x12, y12, rfl, hb⟩
                  have B12 := Lib.hid (B11.out.trans (hb.mono B11.out.size))
                  clear k1
                  have k1 := CJ.out w12 B12.out
                  clear hb
                  go_wp2_with fail
                  refine (OBS.out _ (S9.out.step B12.out)).areas.mono ?_
                  rintro e w13 ⟨x13, y13, rfl, hb⟩
                  have A13 := Lib.hid (A9.out.step (B12.out.trans (hb.mono B12.out.size)))
                  clear k1 hb
                  go_wp2_with fail
                  go_roundw
                  case rel => exact ⟨j + 1, by go_num, by omega, A13.out⟩
                  case measure => simp [intOf]; omega
            · skip
              by_cases e6 : k = 6
              · as_aux_lemma =>
                  subst e6
                  go_wp2_with fail
                  refine (S8.out.didProtect i x y d O.out.wx O.out.wy).mono ?_
                  rintro e w9 ⟨er, rfl, hk, hS, hA⟩
                  have A9 := Lib.hid hA
                  have OB9 := Lib.hid (hk.box OB8.out (by decide))
                  clear hA hk d0 d1 d2 d3 d4 d5 d6 d7 d8
                  by_cases hz : er = 0
                  · subst hz
                    clear hS
                    go_wp2_with fail
                    go_roundw
                    case rel => exact ⟨j + 1, by go_num, by omega, A9.out⟩
                    case measure => simp [intOf]; omega
                  · have S9 := Lib.hid (hS hz)
                    have nz : (er != 0) = true := by simpa using hz
                    have CJ : Hid (∀ V, Below w9.heap.size w9 V → V.cell? ⟨wr.heap.size, 1, none⟩ = some (.int .i64 i)) := Lib.hid fun V hb => by rw [cell_of_row _ _ _ _ _ _ (below_block hb OB9.out)]; rfl
                    have k1 := CJ.out w9 (Below.refl _ _)
                    clear hS hz
                    go_wp2_with fail
                    refine (OBS.out _ S9.out).left.mono ?_
                    rintro e w10 ⟨rfl, hb⟩
                    have B10 := Lib.hid hb
                    clear hb k1
                    go_wp2_with fail
                    refine (OBS.out _ (S9.out.step B10.out)).free.mono ?_
                    rintro e w11 ⟨rfl, hb⟩
                    have B11 := Lib.hid (B10.out.trans (hb.mono B10.out.size))
                    have k1 := CJ.out w11 B11.out
                    clear hb
                    go_wp2_with fail
                    refine (OBS.out _ (S9.out.step B11.out)).mapped.mono ?_
                    rintro e w12 ⟨x12, y12, rfl, hb⟩
                    have B12 := Lib.hid (B11.out.trans (hb.mono B11.out.size))
                    clear k1
                    have k1 := CJ.out w12 B12.out
                    clear hb
                    go_wp2_with fail
                    refine (OBS.out _ (S9.out.step B12.out)).areas.mono ?_
                    rintro e w13 ⟨x13, y13, rfl, hb⟩
                    have A13 := Lib.hid (A9.out.step (B12.out.trans (hb.mono B12.out.size)))
                    clear k1 hb
                    go_wp2_with fail
                    go_roundw
                    case rel => exact ⟨j + 1, by go_num, by omega, A13.out⟩
                    case measure => simp [intOf]; omega
              · skip
                by_cases e8 : k = 8
                · as_aux_lemma =>
                    subst e8
                    go_wp2_with fail
                    refine (S8.out.didStore i va u O.out.wv O.out.wu).mono ?_
                    rintro e w9 ⟨er, rfl, hk, hS, hA⟩
                    have A9 := Lib.hid hA
                    have OB9 := Lib.hid (hk.box OB8.out (by decide))
                    clear hA hk d0 d1 d2 d3 d4 d5 d6 d7 d8
                    by_cases hz : er = 0
                    · subst hz
                      clear hS
                      go_wp2_with fail
                      go_roundw
                      case rel => exact ⟨j + 1, by go_num, by omega, A9.out⟩
                      case measure => simp [intOf]; omega
                    · have S9 := Lib.hid (hS hz)
                      have nz : (er != 0) = true := by simpa using hz
                      have CJ : Hid (∀ V, Below w9.heap.size w9 V → V.cell? ⟨wr.heap.size, 1, none⟩ = some (.int .i64 i)) := Lib.hid fun V hb => by rw [cell_of_row _ _ _ _ _ _ (below_block hb OB9.out)]; rfl
                      have k1 := CJ.out w9 (Below.refl _ _)
                      clear hS hz
                      go_wp2_with fail
                      refine (OBS.out _ S9.out).left.mono ?_
                      rintro e w10 ⟨rfl, hb⟩
                      have B10 := Lib.hid hb
                      clear hb k1
                      go_wp2_with fail
                      refine (OBS.out _ (S9.out.step B10.out)).free.mono ?_
                      rintro e w11 ⟨rfl, hb⟩
                      have B11 := Lib.hid (B10.out.trans (hb.mono B10.out.size))
                      have k1 := CJ.out w11 B11.out
                      clear hb
                      go_wp2_with fail
                      refine (OBS.out _ (S9.out.step B11.out)).mapped.mono ?_
                      rintro e w12 ⟨x12, y12, rfl, hb⟩
                      have B12 := Lib.hid (B11.out.trans (hb.mono B11.out.size))
                      clear k1
                      have k1 := CJ.out w12 B12.out
                      clear hb
                      go_wp2_with fail
                      refine (OBS.out _ (S9.out.step B12.out)).areas.mono ?_
                      rintro e w13 ⟨x13, y13, rfl, hb⟩
                      have A13 := Lib.hid (A9.out.step (B12.out.trans (hb.mono B12.out.size)))
                      clear k1 hb
                      go_wp2_with fail
                      go_roundw
                      case rel => exact ⟨j + 1, by go_num, by omega, A13.out⟩
                      case measure => simp [intOf]; omega
                · skip
                  by_cases e9 : k = 9
                  · as_aux_lemma =>
                      subst e9
                      go_wp2_with fail
                      refine (S8.out.didReach i va n O.out.wv O.out.wn _).mono ?_
                      rintro e w9 ⟨er, rfl, hk, hS, hA⟩
                      have A9 := Lib.hid hA
                      have OB9 := Lib.hid (hk.box OB8.out (by decide))
                      clear hA hk d0 d1 d2 d3 d4 d5 d6 d7 d8
                      by_cases hz : er = 0
                      · subst hz
                        clear hS
                        go_wp2_with fail
                        go_roundw
                        case rel => exact ⟨j + 1, by go_num, by omega, A9.out⟩
                        case measure => simp [intOf]; omega
                      · have S9 := Lib.hid (hS hz)
                        have nz : (er != 0) = true := by simpa using hz
                        have CJ : Hid (∀ V, Below w9.heap.size w9 V → V.cell? ⟨wr.heap.size, 1, none⟩ = some (.int .i64 i)) := Lib.hid fun V hb => by rw [cell_of_row _ _ _ _ _ _ (below_block hb OB9.out)]; rfl
                        have k1 := CJ.out w9 (Below.refl _ _)
                        clear hS hz
                        go_wp2_with fail
                        refine (OBS.out _ S9.out).left.mono ?_
                        rintro e w10 ⟨rfl, hb⟩
                        have B10 := Lib.hid hb
                        clear hb k1
                        go_wp2_with fail
                        refine (OBS.out _ (S9.out.step B10.out)).free.mono ?_
                        rintro e w11 ⟨rfl, hb⟩
                        have B11 := Lib.hid (B10.out.trans (hb.mono B10.out.size))
                        have k1 := CJ.out w11 B11.out
                        clear hb
                        go_wp2_with fail
                        refine (OBS.out _ (S9.out.step B11.out)).mapped.mono ?_
                        rintro e w12 ⟨x12, y12, rfl, hb⟩
                        have B12 := Lib.hid (B11.out.trans (hb.mono B11.out.size))
                        clear k1
                        have k1 := CJ.out w12 B12.out
                        clear hb
                        go_wp2_with fail
                        refine (OBS.out _ (S9.out.step B12.out)).areas.mono ?_
                        rintro e w13 ⟨x13, y13, rfl, hb⟩
                        have A13 := Lib.hid (A9.out.step (B12.out.trans (hb.mono B12.out.size)))
                        clear k1 hb
                        go_wp2_with fail
                        go_roundw
                        case rel => exact ⟨j + 1, by go_num, by omega, A13.out⟩
                        case measure => simp [intOf]; omega
                  · skip
                    by_cases e10 : k = 10
                    · as_aux_lemma =>
                        subst e10
                        go_wp2_with fail
                        refine (S8.out.didCarve i t n).mono ?_
                        rintro e w9 ⟨er, rfl, hk, hS, hA⟩
                        have A9 := Lib.hid hA
                        have OB9 := Lib.hid (hk.box OB8.out (by decide))
                        clear hA hk d0 d1 d2 d3 d4 d5 d6 d7 d8
                        by_cases hz : er = 0
                        · subst hz
                          clear hS
                          go_wp2_with fail
                          go_roundw
                          case rel => exact ⟨j + 1, by go_num, by omega, A9.out⟩
                          case measure => simp [intOf]; omega
                        · have S9 := Lib.hid (hS hz)
                          have nz : (er != 0) = true := by simpa using hz
                          have CJ : Hid (∀ V, Below w9.heap.size w9 V → V.cell? ⟨wr.heap.size, 1, none⟩ = some (.int .i64 i)) := Lib.hid fun V hb => by rw [cell_of_row _ _ _ _ _ _ (below_block hb OB9.out)]; rfl
                          have k1 := CJ.out w9 (Below.refl _ _)
                          clear hS hz
                          go_wp2_with fail
                          refine (OBS.out _ S9.out).left.mono ?_
                          rintro e w10 ⟨rfl, hb⟩
                          have B10 := Lib.hid hb
                          clear hb k1
                          go_wp2_with fail
                          refine (OBS.out _ (S9.out.step B10.out)).free.mono ?_
                          rintro e w11 ⟨rfl, hb⟩
                          have B11 := Lib.hid (B10.out.trans (hb.mono B10.out.size))
                          have k1 := CJ.out w11 B11.out
                          clear hb
                          go_wp2_with fail
                          refine (OBS.out _ (S9.out.step B11.out)).mapped.mono ?_
                          rintro e w12 ⟨x12, y12, rfl, hb⟩
                          have B12 := Lib.hid (B11.out.trans (hb.mono B11.out.size))
                          clear k1
                          have k1 := CJ.out w12 B12.out
                          clear hb
                          go_wp2_with fail
                          refine (OBS.out _ (S9.out.step B12.out)).areas.mono ?_
                          rintro e w13 ⟨x13, y13, rfl, hb⟩
                          have A13 := Lib.hid (A9.out.step (B12.out.trans (hb.mono B12.out.size)))
                          clear k1 hb
                          go_wp2_with fail
                          go_roundw
                          case rel => exact ⟨j + 1, by go_num, by omega, A13.out⟩
                          case measure => simp [intOf]; omega
                    · skip
                      have f1 : (k == 1) = false := by simpa using e1
                      have f3 : (k == 3) = false := by simpa using e3
                      have f4 : (k == 4) = false := by simpa using e4
                      have f5 : (k == 5) = false := by simpa using e5
                      have f6 : (k == 6) = false := by simpa using e6
                      have f8 : (k == 8) = false := by simpa using e8
                      have f9 : (k == 9) = false := by simpa using e9
                      have f10 : (k == 10) = false := by simpa using e10
                      clear e1 e3 e4 e5 e6 e8 e9 e10
                      go_wp2_with fail
                      go_roundw
                      case rel => exact ⟨j + 1, by go_num, by omega, S8.out.any⟩
                      case measure => simp [intOf]; omega
    · obtain rfl : j = m := by omega
      have B3 := Lib.hid H3.out.below
      go_wp2_with fail
      refine (AW.out _ B3.out).mono ?_
      rintro e w4 ⟨rfl, hb⟩
      have B4 := Lib.hid (B3.out.trans (hb.mono B3.out.size))
      clear hb
      go_wp2_with fail
      go_ret
      exact ⟨rfl, B4.out⟩
theorem spaceFails_walk (q : Int) (v : Value) (S : List Op16) (W : World) (hq : -9223372036854775808 ≤ q ∧ q ≤ 9223372036854775807) (hv : ArgOps16 W v S) (hL : LaidN W) : Calls Tryz.prog 6 #[.int .i64 q, v] W fun e w' => e = .returned (.bool true) ∧ Below W.heap.size W w' := by
  by_cases h : q < 1 ∨ 60 < q ∨ 40 < S.length
  · obtain ⟨a, c, rfl, _⟩ := hv
    exact fails_far q S.length c a W h hL
  · obtain ⟨k, rfl⟩ : ∃ k : Nat, q = (k : Int) := ⟨q.toNat, by omega⟩
    exact fails_in k S v W (by omega) (by omega) (by omega) hv hL
end Go.Proofs.YtfpcoomkbmfchaaGreatDoor
