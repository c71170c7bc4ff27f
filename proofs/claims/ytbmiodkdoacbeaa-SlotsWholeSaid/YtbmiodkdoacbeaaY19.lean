/- The walk of SlotsFull. No condition. -/
import Derived.Test.YtbmiodkdoacbeaaY18
import Derived.Test.YtbmiodkdoacbeaaOY
namespace Go.Proofs.Ytbmiodkdoacbeaa
open Go.RowKit Go.Maps
set_option maxRecDepth 100000

/-- Processes 1, 2, .. with no number left out, all of them ready. -/
def FullL (L : List Nd) : Prop := freeN 1 L = 1 + L.length ∧ ∀ x ∈ L, x.2.2.1 = 1
theorem FullL.one : FullL [(1, 0, 1, 0)] := ⟨by decide, by simp⟩
theorem FullL.add {n : Int} {L : List Nd} (h : FullL L) (hg : GoodY n L) (hl : (L.length : Int) ≠ n) (parent : Int) (hp : 0 ≤ parent ∧ parent ≤ 8) : FullL (insN (freeN 1 L, parent, 1, 0) L) := by
  have h1 := freeN_spec (k := 1) hg.up (fun p hp => (hg.ok p hp).1.1)
  obtain ⟨hf, hno⟩ := hg.free hl
  have hg2 : GoodY n (insN (freeN 1 L, parent, 1, 0) L) := hg.ins ⟨hf, hp, (show (1 : Int) ≤ 1 ∧ (1 : Int) ≤ 3 by decide), (show (0 : Int) ≤ 0 ∧ (0 : Int) ≤ 4294967295 by decide)⟩ hno
  have h2 := freeN_spec (k := 1) hg2.up (fun p hp => (hg2.ok p hp).1.1)
  rw [length_insN] at h2
  refine ⟨?_, fun x hx => ?_⟩
  · rw [length_insN]
    have hh := h.1
    by_cases c : freeN 1 (insN (freeN 1 L, parent, 1, 0) L) < 1 + ((L.length + 1 : Nat) : Int)
    · exfalso
      by_cases c2 : freeN 1 (insN (freeN 1 L, parent, 1, 0) L) = freeN 1 L
      · exact h2.2.1 (freeN 1 L, parent, 1, 0) (mem_insN.2 (Or.inl rfl)) c2.symm
      · obtain ⟨p, hp1, hp2⟩ := h1.2.2.1 _ h2.1.1 (by omega)
        exact h2.2.1 p (mem_insN.2 (Or.inr hp1)) hp2
    · have := h2.1.2
      omega
  · rcases mem_insN.1 hx with rfl | hx
    · rfl
    · exact h.2 x hx
structure FullSt (W : World) (b : Nat) (n : Int) (k : Int) (wr : World) : Prop where
  ex : ∃ L, OT W wr b n (fun _ => False) L ∧ FullL L ∧ k = L.length
theorem FullSt.below {W wr : World} {b : Nat} {n k : Int} (h : FullSt W b n k wr) : Below W.heap.size W wr := let ⟨_, h1, _⟩ := h.ex; h1.below
set_option maxHeartbeats 16000000 in
theorem slotsFull_walk (n : Int) (v : Value) (S : List Int) (W : World) (_ : I64 n) (h : ArgIntsY W v S) : Calls Try.prog 7 #[.int .i64 n, v] W fun e w' => e = .returned (.bool true) ∧ Below W.heap.size W w' := by
  obtain ⟨a, cc, rfl, hS, hc⟩ := h
  obtain ⟨N, hN⟩ : ∃ N, N = S.length := ⟨_, rfl⟩
  rw [← hN] at hc ⊢
  have HSS := Lib.hid hS
  have HCC := Lib.hid hc
  have HNN := Lib.hid hN
  clear hS hc hN
  by_cases h1 : n < 1
  · go_enter Try.func7, Try.ntmps7
    go_wp2_with fail
    refine (awake13 _).mono ?_
    rintro e w8 ⟨rfl, hb⟩
    have B := Lib.hid hb
    clear hb
    go_wp2
    go_ret
    exact ⟨rfl, B.out⟩
  by_cases h2 : 8 < n
  · go_enter Try.func7, Try.ntmps7
    go_wp2_with fail
    refine (awake13 _).mono ?_
    rintro e w8 ⟨rfl, hb⟩
    have B := Lib.hid hb
    clear hb
    go_wp2
    go_ret
    exact ⟨rfl, B.out⟩
  by_cases h3 : 20 < N
  · go_enter Try.func7, Try.ntmps7
    go_wp2_with fail
    refine (awake13 _).mono ?_
    rintro e w8 ⟨rfl, hb⟩
    have B := Lib.hid hb
    clear hb
    go_wp2
    go_ret
    exact ⟨rfl, B.out⟩
  · go_enter Try.func7, Try.ntmps7
    go_wp2_with fail
    refine (ot_new (W := W) n (Below.refl _ _) (by omega)).mono ?_
    rintro e w1 ⟨b, rfl, h, -⟩
    have H1 : Hid (FullSt W b n 1 w1) := Lib.hid ⟨_, h, FullL.one, rfl⟩
    clear h
    go_wp2_with fail
    go_loopw [7, 8] (fun k i wr => ∃ (q : Int) (j : Nat), k = .int .i64 q ∧ i = .int .i64 (j : Int) ∧ j ≤ N ∧ FullSt W b n q wr) (fun _ i _ => (N - (intOf i).toNat))
    case atStart => exact ⟨1, 0, rfl, rfl, Nat.zero_le _, H1.out⟩
    case round =>
      obtain ⟨q, j, rfl, rfl, hj, hF⟩ := hrel
      have FF := Lib.hid hF
      obtain ⟨L, hO, hL, rfl⟩ := hF.ex
      clear hF
      have hlen := hO.good.len
      by_cases hlt : j < N
      · have hjl : j < S.length := by rw [← HNN.out]; exact hlt
        obtain ⟨bb, oo, rfl, hbl, hcell⟩ := HCC.out.resolve_left (by rintro rfl; simp at hjl)
        obtain ⟨x, hx⟩ : ∃ x, x = S.getD j 0 := ⟨_, rfl⟩
        have c0 := hcell j (by omega)
        rw [← hx] at c0
        have hxI : I64 x := by
          have e : S.getD j 0 = S[j] := by simp [List.getD_eq_getElem?_getD, hjl]
          rw [hx, e]
          exact HSS.out _ (List.getElem_mem hjl)
        have CB : Hid (∀ w', Below W.heap.size W w' → w'.cell? ⟨bb, oo + j, none⟩ = some (.int .i64 x)) := Lib.hid fun w' hb => (hb.cell (p := ⟨bb, oo + j, none⟩) hbl).trans c0
        have cw := CB.out wr hO.below
        have HO := Lib.hid hO
        have HL := Lib.hid hL
        clear hcell c0 hx hO hL
        cases hat : atN x L with
        | none =>
          have e4 : addE n L x = 4 := by unfold addE; rw [hat]
          have eP : addP n L x = 0 := by unfold addP; rw [e4]; rfl
          have eL : addL n L x = L := by unfold addL; rw [e4]; rfl
          have eG : getP L x = (0, 0, 0, 0) := by unfold getP; rw [hat]; rfl
          have eS : (atN x L).isSome = false := by rw [hat]; rfl
          have EQ := Lib.hid (And.intro eP (And.intro e4 eL))
          have EG := Lib.hid (And.intro eG eS)
          clear e4 eP eL eG eS hat
          go_wp2_with fail
          refine (ot_get HO.out x hxI EG.out.1 EG.out.2).mono ?_
          rintro e w2 ⟨rfl, hb⟩
          obtain ⟨w3, hw3⟩ : ∃ w3, w3 = w2.alloc (.cells #[.int .i64 0, .int .i64 0, .int .i64 0, .int .u32 0] 42) := ⟨_, rfl⟩
          have H3 := Lib.hid ((HO.out.step hb).step (w' := w3) (by rw [hw3]; exact (Below.refl _ _).alloc (Nat.le_refl _) _))
          have cw3 := CB.out w3 H3.out.below
          clear hb cw
          unfold prV
          rw [hw3] at cw3
          go_wp2_with fail
          rw [← hw3]
          clear hw3 cw3
          refine (ot_add H3.out x hxI EQ.out.1 EQ.out.2.1 EQ.out.2.2).mono ?_
          rintro e w4 ⟨rfl, h4, -⟩
          have H4 : Hid (FullSt W b n (L.length : Int) w4) := Lib.hid ⟨_, h4, HL.out, rfl⟩
          clear h4
          go_wp2
          go_roundw
          case rel => exact ⟨_, j + 1, rfl, by go_num, by omega, H4.out⟩
          case measure => simp [intOf]; omega
        | some y =>
          have hy1 : y.2.2.1 = 1 := HL.out.2 y (atN_some hat).1
          have hyr := HO.out.good.at_ hat
          have eS : (atN x L).isSome = true := by rw [hat]; rfl
          obtain ⟨⟨g1, g2, g3, g4⟩, hg⟩ : ∃ g, getP L x = g := ⟨_, rfl⟩
          by_cases hfull : (L.length : Int) = n
          · have e3 : addE n L x = 3 := by unfold addE; rw [hat]; simp only; rw [if_neg (by omega), if_pos hfull]
            have eP : addP n L x = 0 := by unfold addP; rw [e3]; rfl
            have eL : addL n L x = L := by unfold addL; rw [e3]; rfl
            have EQ := Lib.hid (And.intro eP (And.intro e3 eL))
            have EG := Lib.hid (And.intro hg eS)
            have hq := Lib.hid hfull
            have hnl : decide ((L.length : Int) < n) = false := by simp; omega
            have hnb : ¬ ((L.length : Int) < n) := by omega
            clear e3 eP eL hg eS hat hy1 hyr hfull
            generalize hk : (L.length : Int) = k at *
            have HK := Lib.hid hk
            clear hk
            go_wp2_with fail
            refine (ot_get HO.out x hxI EG.out.1 EG.out.2).mono ?_
            rintro e w2 ⟨rfl, hb⟩
            obtain ⟨w3, hw3⟩ : ∃ w3, w3 = w2.alloc (.cells #[.int .i64 g1, .int .i64 g2, .int .i64 g3, .int .u32 g4] 42) := ⟨_, rfl⟩
            have H3 := Lib.hid ((HO.out.step hb).step (w' := w3) (by rw [hw3]; exact (Below.refl _ _).alloc (Nat.le_refl _) _))
            have cw3 := CB.out w3 H3.out.below
            clear hb cw
            unfold prV
            rw [hw3] at cw3
            go_wp2_with fail
            rw [← hw3]
            clear hw3 cw3
            refine (ot_add H3.out x hxI EQ.out.1 EQ.out.2.1 EQ.out.2.2).mono ?_
            rintro e w4 ⟨rfl, h4, -⟩
            have H4 : Hid (FullSt W b n k w4) := Lib.hid ⟨_, h4, HL.out, HK.out.symm⟩
            clear h4
            go_wp2
            go_roundw
            case rel => exact ⟨_, j + 1, rfl, by go_num, by omega, H4.out⟩
            case measure => simp [intOf]; omega
          · have e0 : addE n L x = 0 := by unfold addE; rw [hat]; simp only; rw [if_neg (by omega), if_neg hfull]
            have hfr : freeN 1 L = (L.length : Int) + 1 := by have := HL.out.1; omega
            have eP : addP n L x = (L.length : Int) + 1 := by unfold addP; rw [if_pos e0, hfr]
            have eL : addL n L x = insN (freeN 1 L, x, 1, 0) L := by unfold addL; rw [if_pos e0]
            have HL2 := Lib.hid (HL.out.add HO.out.good hfull x (by have := HO.out.good.most; omega))
            have hat2 : atN ((L.length : Int) + 1) (insN (freeN 1 L, x, 1, 0) L) = some ((L.length : Int) + 1, x, 1, 0) := by
              rw [atN_insN (HO.out.good.free hfull).2, if_pos hfr.symm, hfr]
            have eg2 : getP (insN (freeN 1 L, x, 1, 0) L) ((L.length : Int) + 1) = ((L.length : Int) + 1, x, 1, 0) := by unfold getP; rw [hat2]; rfl
            have es2 : (atN ((L.length : Int) + 1) (insN (freeN 1 L, x, 1, 0) L)).isSome = true := by rw [hat2]; rfl
            have hlen2 := length_insN (freeN 1 L, x, 1, 0) L
            have EQ := Lib.hid (And.intro eP (And.intro e0 eL))
            have EG := Lib.hid (And.intro hg eS)
            have EG2 := Lib.hid (And.intro eg2 es2)
            have hq : (L.length : Int) < n := by omega
            obtain ⟨L2, hL2⟩ : ∃ L2, L2 = insN (freeN 1 L, x, 1, 0) L := ⟨_, rfl⟩
            rw [← hL2] at EQ EG2 HL2 hlen2
            have HLEN : Hid ((L.length : Int) + 1 = (L2.length : Int)) := Lib.hid (by omega)
            clear e0 eP eL hg eS hat hy1 hyr hfull hat2 eg2 es2 hfr hL2 hlen2
            obtain ⟨k, hk⟩ : ∃ k, (L.length : Int) = k := ⟨_, rfl⟩
            have hk0 : 0 ≤ k := by omega
            rw [hk] at EQ EG2 HLEN hq FF hlen ⊢
            clear hk
            go_wp2_with fail
            refine (ot_get HO.out x hxI EG.out.1 EG.out.2).mono ?_
            rintro e w2 ⟨rfl, hb⟩
            obtain ⟨w3, hw3⟩ : ∃ w3, w3 = w2.alloc (.cells #[.int .i64 g1, .int .i64 g2, .int .i64 g3, .int .u32 g4] 42) := ⟨_, rfl⟩
            have H3 := Lib.hid ((HO.out.step hb).step (w' := w3) (by rw [hw3]; exact (Below.refl _ _).alloc (Nat.le_refl _) _))
            have cw3 := CB.out w3 H3.out.below
            clear hb cw
            unfold prV
            rw [hw3] at cw3
            go_wp2_with fail
            rw [← hw3]
            clear hw3 cw3
            refine (ot_add H3.out x hxI EQ.out.1 EQ.out.2.1 EQ.out.2.2).mono ?_
            rintro e w4 ⟨rfl, h4, -⟩
            have H4 := Lib.hid h4
            clear h4
            go_wp2_with fail
            refine (ot_get H4.out (k + 1) (by omega) EG2.out.1 EG2.out.2).mono ?_
            rintro e w5 ⟨rfl, hb⟩
            obtain ⟨w6, hw6⟩ : ∃ w6, w6 = w5.alloc (.cells #[.int .i64 (k + 1), .int .i64 x, .int .i64 1, .int .u32 0] 42) := ⟨_, rfl⟩
            have hx6 : w6.heap[w5.heap.size]? = some (prO (k + 1, x, 1, 0)) := by rw [hw6]; exact heap_alloc_new w5 _
            have H6 := Lib.hid ((H4.out.step hb).step (w' := w6) (by rw [hw6]; exact (Below.refl _ _).alloc (Nat.le_refl _) _))
            obtain ⟨a0, a1, a2, a3, -⟩ := prO_cells hx6
            simp only at a0 a1 a2 a3
            have cw6 := CB.out w6 H6.out.below
            clear hb hx6
            unfold prV
            go_wp2_with fail
            rw [← hw6]
            clear hw6
            go_region_held3 (fun w' => (w'.cell? ⟨w5.heap.size, 0, none⟩ = some (.int .i64 (k + 1)) ∧ w'.cell? ⟨w5.heap.size, 1, none⟩ = some (.int .i64 x) ∧ w'.cell? ⟨w5.heap.size, 2, none⟩ = some (.int .i64 1) ∧ w'.cell? ⟨w5.heap.size, 3, none⟩ = some (.int .u32 0)) ∧ w'.cell? ⟨bb, oo + j, none⟩ = some (.int .i64 x)) (go_keep) (fail)
            all_goals
              have H7 : Hid (FullSt W b n (k + 1) w6.drew) := Lib.hid ⟨L2, H6.out.step (Below.refl _ _).drew, HL2.out, HLEN.out⟩
              clear a0 a1 a2 a3 cw6
              go_wp2
              go_roundw
              case rel => exact ⟨k + 1, j + 1, rfl, by go_num, by omega, H7.out⟩
              case measure => simp [intOf]; omega
      · obtain rfl : j = N := by omega
        have HO := Lib.hid hO
        clear hlt hO hL
        go_wp2_with fail
        refine (ot_all HO.out).mono ?_
        rintro e w2 ⟨v2, rfl, hr, hb⟩
        obtain ⟨a2, c2, rfl⟩ := owns_slice hr
        have B2 := Lib.hid (HO.out.below.trans (hb.mono HO.out.below.size))
        clear hr hb
        go_wp2_with fail
        refine (awake13 _).mono ?_
        rintro e w3 ⟨rfl, hb⟩
        have B3 := Lib.hid (B2.out.trans (hb.mono B2.out.size))
        clear hb
        go_wp2
        go_ret
        exact ⟨rfl, B3.out⟩
end Go.Proofs.Ytbmiodkdoacbeaa
