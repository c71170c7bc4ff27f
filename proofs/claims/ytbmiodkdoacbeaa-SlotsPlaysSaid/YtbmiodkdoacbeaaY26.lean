/- The walk of the document's serve of layer 13. Condition: the table is a law's own, its row the call's. -/
import Derived.Test.YtbmiodkdoacbeaaY25
import Derived.Deep.RegionLaw
namespace Go.Proofs.Ytbmiodkdoacbeaa
open Go.RowKit Go.Maps
set_option maxRecDepth 100000

set_option maxHeartbeats 8000000 in
theorem rserveY {base : Nat} {w : World} {rb : Nat} {n : Int} {L : List Nd} {v : Value} (h : RTab base w rb n L v) (hg : GoodY n L) :
    Calls Try.prog 32 #[.pointer (some ⟨rb, 0, none⟩)] w (SrvPost base w rb n L) := by
  obtain ⟨ie, hi, hbi⟩ := Option.map_eq_some_iff.1 reapInfo
  simp only [Prod.mk.injEq] at hbi
  obtain ⟨hi0, hi1, hi2⟩ := hbi
  have n1 := hg.most.1
  have n8 := hg.most.2
  have HG := Lib.hid hg
  have LOW := Lib.hid h.low
  have S0 : Hid (SrvAt base w w rb n L (.slice none 0 0) 0) := Lib.hid ⟨⟨v, h⟩, ⟨rfl, .inl ⟨rfl, rfl⟩⟩, Only.refl _ _⟩
  clear h hg
  go_enter Try.func32, Try.ntmps32
  go_wp2_with fail
  go_loopw [3, 4] (fun o i wr => ∃ (j : Nat), i = .int .i64 ((j : Int) + 1) ∧ (j : Int) ≤ n ∧ SrvAt base w wr rb n L o j) (fun _ i _ => (n + 1 - intOf i).toNat)
  case atStart => exact ⟨0, rfl, by omega, S0.out⟩
  case round =>
    obtain ⟨j, rfl, hj, hs⟩ := hrel
    have SA := Lib.hid hs
    obtain ⟨v1, hv1⟩ := hs.tab
    obtain ⟨c0, c1, f0, f1⟩ := hv1.cells
    have TB := Lib.hid hv1
    by_cases hlt : (j : Int) + 1 ≤ n
    · obtain ⟨M, hM⟩ : ∃ M, M = srvL j L := ⟨_, rfl⟩
      have GM := Lib.hid (HG.out.srv j)
      have SK := Lib.hid (fun (hh : isSrv ((j : Int) + 1) M = none) w' hb => hs.skip (w' := w') (by rw [← hM]; exact hh) hb)
      have HM := Lib.hid hM
      rw [← hM] at GM TB
      have hm8 : M.length ≤ 8 := by have := GM.out.len; omega
      have NA := Lib.hid (PrsAt.of_row TB.out.row)
      clear hM hs hv1
      cases hp : atN ((j : Int) + 1) M with
      | none =>
        have AT := Lib.hid (ratY M v1 ((j : Int) + 1) wr (by omega) NA.out (atIY_none hp))
        have SK2 := Lib.hid (SK.out (by unfold isSrv; rw [hp]))
        clear hp SK
        go_wp2_with fail
        refine AT.out.mono ?_
        rintro e w1 ⟨rfl, rfl⟩
        go_wp2
        go_roundw
        case rel => exact ⟨j + 1, by go_num, by omega, SK2.out _ (Below.refl _ _)⟩
        case measure => simp [intOf]; omega
      | some x =>
        obtain ⟨hpl, hpx⟩ := pos_at hp
        obtain ⟨q, hq⟩ : ∃ q, posN ((j : Int) + 1) M = q := ⟨_, rfl⟩
        have AT := Lib.hid (ratY M v1 ((j : Int) + 1) wr (by omega) NA.out ((atIY_some hp).trans (by rw [hq])))
        rw [hq] at hpl hpx
        obtain ⟨m, hm⟩ : ∃ m, m = M.length := ⟨_, rfl⟩
        obtain ⟨-, h0⟩ | ⟨g0, cp, rfl, hnc, hcm, hg0, hcs⟩ := row_allY TB.out.row
        · omega
        rw [← hm] at NA AT c1 TB hnc hm8 hpl
        obtain ⟨b', hb', -, -, -, x2, -⟩ := NA.out.at_ (by rw [← hm]; exact hpl) hpx
        obtain rfl : g0 = b' := by simpa using hb'
        have HMM := Lib.hid hm
        clear hb'
        by_cases h2 : x.2.2.1 = 2
        · rw [h2] at x2
          cases hz : zomb ((j : Int) + 1) M with
          | none =>
            have CH := Lib.hid (rchildY M _ ((j : Int) + 1) wr (by omega) NA.out (k := -1) (by unfold chI; rw [if_pos hz]))
            have SK2 := Lib.hid (SK.out (by unfold isSrv; rw [hp]; simp only; rw [if_pos h2, hz]))
            clear hp hz h2 SK hcs hpx hm hq
            go_wp2_with fail
            refine AT.out.mono ?_
            rintro e w1 ⟨rfl, rfl⟩
            go_wp2_with fail
            refine CH.out.mono ?_
            rintro e w1 ⟨rfl, rfl⟩
            go_wp2
            go_roundw
            case rel => exact ⟨j + 1, by go_num, by omega, SK2.out _ (Below.refl _ _)⟩
            case measure => simp [intOf]; omega
          | some c =>
            obtain ⟨zq, hzq⟩ : ∃ zq, posZ ((j : Int) + 1) M = zq := ⟨_, rfl⟩
            have CH := Lib.hid (rchildY M _ ((j : Int) + 1) wr (by omega) NA.out (k := (zq : Int)) (by unfold chI; rw [if_neg (by rw [hz]; simp), hzq]))
            obtain ⟨hzl, hzx⟩ := posZ_at hz
            rw [hzq] at hzl hzx
            obtain ⟨b', hb', -, z0, -, -, z3⟩ := NA.out.at_ hzl hzx
            obtain rfl : g0 = b' := by simpa using hb'
            rw [← hm] at hzl
            have hsv : isSrv ((j : Int) + 1) M = some c := by unfold isSrv; rw [hp]; simp only; rw [if_pos h2, hz]
            have hcut := Lib.hid (stepL_cut GM.out.up hsv)
            rw [hzq] at hcut
            have SET := Lib.hid (fun (V : World) (hV : RTab base V rb n M (.slice (some ⟨g0, 0, none⟩) m cp)) => hV.setRow (L' := M.map (setSt ((j : Int) + 1) 1)) (q := q * 4 + 2) (u := .int .i64 1) hm (by simp) (by rw [map_setSt _ _ GM.out.up hp, hq]; exact prsV_set2 M q x 1 (by omega) hpx))
            have X2 : Hid (∀ V, RTab base V rb n M (.slice (some ⟨g0, 0, none⟩) m cp) → V.cell? ⟨g0, q * 4 + 2, none⟩ = some (.int .i64 2)) := Lib.hid fun V hV => by
              obtain ⟨b2, hb2, -, -, -, y2, -⟩ := (PrsAt.of_row hV.row).at_ (by rw [← hm]; exact hpl) hpx
              obtain rfl : g0 = b2 := by simpa using hb2
              rw [h2] at y2
              exact y2
            obtain ⟨L6, hL6⟩ : ∃ L6, L6 = (M.map (setSt ((j : Int) + 1) 1)).take zq ++ (M.map (setSt ((j : Int) + 1) 1)).drop (zq + 1) := ⟨_, rfl⟩
            rw [← hL6] at hcut
            have WO : Hid (∀ V, RTab base V rb n (M.map (setSt ((j : Int) + 1) 1)) (.slice (some ⟨g0, 0, none⟩) m cp) → Calls Try.prog 37 #[.slice (some ⟨g0, 0, none⟩) m cp, .int .i64 (zq : Int)] V (PrsPost V L6)) := Lib.hid fun V hV => by
              rw [hL6]
              exact rwithoutY hV.row (by rw [List.length_map]; omega) zq (by rw [List.length_map]; omega)
            clear hL6
            generalize c.2.2.2 = cc at z3 hcut
            generalize c.1 = ci at z0 hcut
            have hne : rb ≠ g0 := fun e => TB.out.ne (by rw [e]; rfl)
            have hrb : rb < wr.heap.size := lt_of_block TB.out.box
            clear hp hz h2 SK hcs hpx hq hsv hzx hb' hzq
            have qm : (q : Int) < (m : Int) := by omega
            have zm : (zq : Int) < (m : Int) := by omega
            obtain ⟨R, hR⟩ : ∃ R, R = srvR j L := ⟨_, rfl⟩
            have hRl : R.length ≤ j := by rw [hR]; exact srvR_length L j
            have OUT := Lib.hid SA.out.out
            rw [← hR] at OUT
            have HR := Lib.hid hR
            clear hR hm
            obtain ⟨wa, hwa⟩ : ∃ wa, wa = wr.drew.alloc (.cells #[.int .i64 ((j : Int) + 1), .int .i64 ci, .int .u32 cc] 58) := ⟨_, rfl⟩
            have BA : Hid (Below wr.heap.size wr wa) := Lib.hid (by rw [hwa]; exact (Below.refl _ _).drew.alloc (Nat.le_refl _) _)
            have OA := Lib.hid (own_step OUT.out BA.out)
            have NEWS := Lib.hid (new_reapY wr.drew ((j : Int) + 1) ci cc 58)
            have W0 : Hid (w.heap.size ≤ wr.heap.size) := Lib.hid SA.out.only.size
            have ZA : Hid (w.heap.size ≤ wa.heap.size) := Lib.hid (Nat.le_trans W0.out BA.out.size)
            have BA2 := BA
            rw [hwa] at OA ZA BA2
            clear hwa
            go_wp2_with fail
            refine AT.out.mono ?_
            rintro e w1 ⟨rfl, rfl⟩
            go_wp2_with fail
            refine CH.out.mono ?_
            rintro e w1 ⟨rfl, rfl⟩
            go_wp2_with fail
            go_region_law (first
              | (refine step_append_lies _ (by rfl) _ _ _ (by rfl) w.heap.size 58 ie _ 3 24 Try.underlying52 hi hi0 hi1 hi2 rfl (by omega) _ R.length (rpV R) (by rfl) OA.out ⟨wr.drew.heap.size, 0, none⟩ 1 1 [.int .i64 ((j : Int) + 1), .int .i64 ci, .int .u32 cc] (by rfl) (by rfl) NEWS.out (by simp [Value.oneCell']) (by omega) (by unfold maxLen; omega) (by omega) ZA.out (wr.drew.heap.size + 1) (by simp) ?_
                 intro gg cap w4 ho hg hat hlt4
                 have OO := Lib.hid ho
                 have GG := Lib.hid hg
                 have T4 := Lib.hid ((TB.out.below BA2.out).grown hg (fun k hk => own_block OA.out hk))
                 obtain ⟨y0, y1, e0, e1⟩ := T4.out.cells
                 clear ho hg hat))
            all_goals
              have T5 := Lib.hid (SET.out _ T4.out)
              have R4 := T4.out.row
              rw [← HMM.out] at R4
              have f5 := R4.frozenAt (q * 4 + 2)
              have x4 := X2.out _ T4.out
              clear R4
              go_wp2_with (go_at_call 37; refine (WO.out _ T5.out).mono ?_; rintro e w6 ⟨v6, rfl, ho6, hb6⟩; obtain ⟨a6, c6, rfl⟩ := owns_slice ho6; have O6 := Lib.hid ho6; have B6 := Lib.hid hb6; obtain ⟨-, y6, -, e6⟩ := (T5.out.below hb6).cells; clear ho6 hb6)
              go_roundw
              case rel => exact ⟨j + 1, by go_num, by omega, SA.out.served LOW.out HM.out HR.out OA.out BA2.out GG.out OO.out T4.out T5.out B6.out O6.out hcut.out⟩
              case measure => simp [intOf]; omega
        · have b2 : (x.2.2.1 != 2) = true := by simpa using h2
          have SK2 := Lib.hid (SK.out (by unfold isSrv; rw [hp]; simp only; rw [if_neg h2]))
          clear hp SK hcs hpx hm hq h2
          generalize x.2.2.1 = s at *
          go_wp2_with fail
          refine AT.out.mono ?_
          rintro e w1 ⟨rfl, rfl⟩
          go_wp2
          go_roundw
          case rel => exact ⟨j + 1, by go_num, by omega, SK2.out _ (Below.refl _ _)⟩
          case measure => simp [intOf]; omega
    · obtain rfl : n = (j : Int) := by omega
      clear hlt
      go_wp2
      go_ret
      refine ⟨_, rfl, ⟨v1, ?_⟩, ?_, SA.out.only⟩
      · have := TB.out
        unfold serveL
        rw [Int.toNat_natCast]
        exact this
      · unfold serveR
        rw [Int.toNat_natCast]
        exact SA.out.out
end Go.Proofs.Ytbmiodkdoacbeaa
