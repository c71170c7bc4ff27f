/- The walk of the law SpaceZero. Condition: the listed tables lie as laid. -/
import Derived.Test.YtfpcoomkbmfchaaGreatDoorHV
import Derived.Test.YtfpcoomkbmfchaaGreatDoorS42
import Derived.Test.YtfpcoomkbmfchaaGreatDoorHY
namespace Go.Proofs.YtfpcoomkbmfchaaGreatDoor
open Go.RowKit Go.Maps
set_option maxRecDepth 100000

theorem costP_zero : costP (fun _ => false) = 1 := costF_no
theorem zero_er {va : Int} (h0 : 0 ≤ va) : reachP [(4, 8, false)] (oneL 60 1) (fun _ => false) 1 va 1 false = if 128 ≤ va ∧ va < 384 then 0 else 7 := by
  by_cases hin : 128 ≤ va ∧ va < 384
  · rw [if_pos hin]
    exact reach_one (by omega) (by rw [area_at1 (by omega)]; rfl) (need_no _) (by decide)
  · rw [if_neg hin]
    by_cases h1 : va < 32768
    · refine reach_may h1 ?_ (by decide)
      have : atD [(4, 8, false)] ((va / 32).toNat : Int) = none := by
        show (if (4 : Int) ≤ _ ∧ _ < (4 : Int) + 8 then some false else none) = none
        rw [if_neg]; omega
      rw [this]; rfl
    · unfold reachP; rw [if_pos (by omega)]
theorem zero_far (L : List Int) (a : Option Addr) (c : Nat) (va : Int) (W : World) (h : 40 < L.length) (hL : LaidN W) : Calls Tryz.prog 8 #[.slice a L.length c, .int .u32 va] W fun e w' => e = .returned (.bool true) ∧ Below W.heap.size W w' := by
  have AW := Lib.hid (hL.awake W (Below.refl _ _))
  have d0 : decide (40 < (L.length : Int)) = true := decide_eq_true (by omega)
  generalize L.length = n at *
  clear hL
  go_enter Tryz.func8, Tryz.ntmps8
  go_wp2_with fail
  refine AW.out.mono ?_
  rintro e w1 ⟨rfl, hb⟩
  have B := Lib.hid hb
  clear hb
  go_wp2_with fail
  go_ret
  exact ⟨rfl, B.out⟩
/-- Behind all stores: nothing is mapped, what is charged is the root. -/
theorem Hv.bare {W0 w : World} {I : SIx} {s : Pc} {k u : Int} {pr : Int → Nat → Bool} {rd : Int → Nat → Nat → Int} (h : Hv W0 w I 60 (refundL (oneL 60 u) 1 k) (putG G0 1 s) pr rd) (hs : s.ar = []) : Hv W0 w I 60 (oneL 60 1) (putG G0 1 s) (fun _ _ => false) (fun _ _ _ => 0) := by
  have hp : ∀ j r, r < 1024 → pr j r = false := fun j r hr => by
    cases hx : pr j r with
    | false => rfl
    | true =>
      obtain ⟨t, x, hG, ha⟩ := h.mapd hr hx
      by_cases e : j = 1
      · subst e
        rw [putG_same] at hG
        obtain rfl := Option.some.inj hG
        rw [hs] at ha; cases ha
      · rw [putG_other _ _ _ e] at hG; cases hG
  obtain ⟨u', hu⟩ := refund_one 60 u k
  rw [hu] at h
  have h1 := h.used (putG_same _ _ _)
  rw [costP_congr (d := fun _ => false) (fun p hp' => hp 1 p hp'), costP_zero] at h1
  have h2 : u'.toNat = 1 := h1
  obtain rfl : u' = 1 := by omega
  exact h.congr (fun j r hr => (hp j r hr).symm) (fun j r y hr hy => (h.rdOff hr hy (hp j r hr)).symm)
set_option maxHeartbeats 16000000 in
theorem zero_in (L : List Int) (v : Value) (va : Int) (W : World) (hl : L.length ≤ 40) (hv : ArgWs W v L) (hva : 0 ≤ va ∧ va ≤ 4294967295) (hL : LaidN W) : Calls Tryz.prog 8 #[v, .int .u32 va] W fun e w' => e = .returned (.bool true) ∧ Below W.heap.size W w' := by
  have MD := Lib.hid (madeS_ok 60 W (by decide) (by decide) hL.lq hL.lw)
  have AW := Lib.hid hL.awake
  obtain ⟨a, c, rfl, hlw, hc⟩ := hv
  obtain ⟨n, hn⟩ : ∃ n, n = L.length := ⟨_, rfl⟩
  have HN := Lib.hid hn
  have HC := Lib.hid hc
  have HW := Lib.hid hlw
  rw [← hn] at hl ⊢
  have d0 : decide (40 < (n : Int)) = false := decide_eq_false (by omega)
  clear hL hn hc hlw
  go_enter Tryz.func8, Tryz.ntmps8
  go_wp2_with fail
  refine (show Calls Tryz.prog 28 #[.int .i64 60] W _ from MD.out).mono ?_
  rintro e w1 ⟨I, rfl, hf⟩
  have H1 := Lib.hid hf.hv
  clear hf
  go_wp2_with fail
  refine (H1.out.open_ (i := 1) (by decide)).mono ?_
  rintro e w2 ⟨rfl, hk, s, hs, h⟩
  have H2 : Hid (Hv W w2 I 60 (oneL 60 1) (putG G0 1 s) (fun _ _ => false) (fun _ _ _ => 0)) := Lib.hid h
  have S2 := Lib.hid hs
  clear hk hs h
  go_wp2_with fail
  refine (H2.out.grow1 (putG_same _ _ _) S2.out (x := 0) (y := 8) (by unfold FitD; omega) true).mono ?_
  rintro e w3 ⟨rfl, hk, s3, hs, h⟩
  rw [putG_putG] at h
  have H3 := Lib.hid h
  have S3 := Lib.hid hs
  clear hk hs h
  go_wp2_with fail
  go_loopw [9] (fun i wr => ∃ k : Nat, i = .int .i64 (k : Int) ∧ k ≤ n ∧ ∃ u pr rd, Hv W wr I 60 (oneL 60 u) (putG G0 1 s3) pr rd) (fun i _ => (n - (intOf i).toNat))
  case atStart => exact ⟨0, rfl, Nat.zero_le _, _, _, _, H3.out⟩
  case round =>
    obtain ⟨k, rfl, hk, u, pr, rd, h⟩ := hrel
    have H4 := Lib.hid h
    clear h
    by_cases hlt : k < n
    · obtain ⟨b, o, rfl, hb, hcs⟩ := HC.out.resolve_left (by intro e; have := HN.out; rw [e] at this; simp at this; omega)
      have ck : wr.cell? ⟨b, o + k, none⟩ = some (.int .u32 (L.getD k 0)) := (H4.out.below.cell (p := ⟨b, o + k, none⟩) hb).trans (hcs k (by have := HN.out; omega))
      have hx : 0 ≤ L.getD k 0 ∧ L.getD k 0 ≤ 4294967295 := HW.out _ (by
        rw [List.getD_eq_getElem?_getD, List.getElem?_eq_getElem (by have := HN.out; omega)]; exact List.getElem_mem _)
      generalize L.getD k 0 = x at ck hx
      clear hb hcs
      go_wp2_with fail
      refine (H4.out.store (putG_same _ _ _) x 77 (by omega) (by decide) rfl).mono ?_
      rintro e w5 ⟨rfl, hk5, hn5, hz5⟩
      have H5 : Hid (∃ u pr rd, Hv W w5 I 60 (oneL 60 u) (putG G0 1 s3) pr rd) := Lib.hid (by
        by_cases e0 : reachP s3.ar (oneL 60 u) (pr 1) 1 x 1 true = 0
        · have := (hz5 e0).2
          obtain ⟨u', hu⟩ := charge_one 60 u (needP (pr 1) (pgs x 1) : Int)
          rw [hu] at this
          exact ⟨u', _, _, this⟩
        · exact ⟨u, pr, rd, hn5 e0⟩)
      generalize reachP s3.ar (oneL 60 u) (pr 1) 1 x 1 true = er
      clear hk5 hn5 hz5
      go_wp2_with fail
      go_roundw
      case rel => exact ⟨k + 1, by go_num, by omega, H5.out⟩
      case measure => simp [intOf]; omega
    · obtain rfl : k = n := by omega
      go_wp2_with fail
      refine (H4.out.shrink (putG_same _ _ _) 0 8 (by unfold I64; omega) (by unfold I64; omega)).mono ?_
      rintro e w6 ⟨er, M, ha, rfl, hk6, hz⟩
      rw [S3.out] at ha
      obtain ⟨rfl, rfl⟩ := cutD_all (by unfold FitD; omega) ha
      obtain ⟨s6, hs6, h⟩ : ∃ s6, s6.ar = [] ∧ Hv W w6 I 60 (oneL 60 1) (putG G0 1 s6) (fun _ _ => false) (fun _ _ _ => 0) := by
        rcases hz with ⟨hne, _⟩ | ⟨_, s6, k6, p6, r6, hs6, h⟩
        · exact absurd rfl hne
        · rw [putG_putG] at h
          exact ⟨s6, hs6, h.bare hs6⟩
      have H6 := Lib.hid h
      have S6 := Lib.hid hs6
      clear ha hk6 hz h hs6
      go_wp2_with fail
      refine (H6.out.mapped 1).mono ?_
      rintro e w7 ⟨v7, rfl, ho, hb⟩
      have el : (pgL fun _ => false) = [] := by unfold pgL; rw [List.filter_eq_nil_iff]; intro p _; decide
      obtain ⟨a7, c7, rfl⟩ := ownsForm ho
      have H7 := Lib.hid (H6.out.step hb)
      rw [show (pgL fun p => (fun _ _ => false : Int → Nat → Bool) 1 p).length = 0 by rw [show (pgL fun p => (fun _ _ => false : Int → Nat → Bool) 1 p) = [] from el]; rfl]
      clear ho hb el
      go_wp2_with fail
      refine (H7.out.grow1 (putG_same _ _ _) S6.out (x := 4) (y := 8) (by unfold FitD; omega) false).mono ?_
      rintro e w8 ⟨rfl, hk8, s8, hs, h⟩
      rw [putG_putG] at h
      have H8 := Lib.hid h
      have S8 := Lib.hid hs
      clear hk8 hs h
      go_wp2_with fail
      refine (H8.out.load (putG_same _ _ _) va (by omega) (er := if 128 ≤ va ∧ va < 384 then 0 else 7) (by rw [S8.out]; exact zero_er hva.1)).mono ?_
      rintro e w9 ⟨rfl, hk9, hn9, hz9⟩
      have H9 : Hid (Below W.heap.size W w9) := Lib.hid (by
        by_cases e0 : (if 128 ≤ va ∧ va < 384 then (0 : Int) else 7) = 0
        · exact (hz9 e0).below
        · exact (hn9 e0).below)
      rw [show ldR (fun _ _ _ => 0) 1 va = 0 by unfold ldR; split <;> rfl]
      clear hk9 hn9 hz9
      by_cases h1 : 128 ≤ va
      · have d1 : decide (128 ≤ va) = true := decide_eq_true h1
        by_cases h2 : va < 384
        · have d2 : decide (va < 384) = true := decide_eq_true h2
          rw [if_pos ⟨h1, h2⟩]
          go_wp2_with fail
          refine (AW.out _ H9.out).mono ?_
          rintro e w10 ⟨rfl, hb⟩
          have B10 := Lib.hid (H9.out.trans (hb.mono H9.out.size))
          clear hb
          go_wp2_with fail
          go_ret
          exact ⟨rfl, B10.out⟩
        · have d2 : decide (va < 384) = false := decide_eq_false h2
          rw [if_neg (fun h => h2 h.2)]
          go_wp2_with fail
          refine (AW.out _ H9.out).mono ?_
          rintro e w10 ⟨rfl, hb⟩
          have B10 := Lib.hid (H9.out.trans (hb.mono H9.out.size))
          clear hb
          go_wp2_with fail
          go_ret
          exact ⟨rfl, B10.out⟩
      · have d1 : decide (128 ≤ va) = false := decide_eq_false h1
        rw [if_neg (fun h => h1 h.1)]
        go_wp2_with fail
        refine (AW.out _ H9.out).mono ?_
        rintro e w10 ⟨rfl, hb⟩
        have B10 := Lib.hid (H9.out.trans (hb.mono H9.out.size))
        clear hb
        go_wp2_with fail
        go_ret
        exact ⟨rfl, B10.out⟩
theorem spaceZero_walk (v : Value) (L : List Int) (va : Int) (W : World) (hv : ArgWs W v L) (hva : 0 ≤ va ∧ va ≤ 4294967295) (hL : LaidN W) : Calls Tryz.prog 8 #[v, .int .u32 va] W fun e w' => e = .returned (.bool true) ∧ Below W.heap.size W w' := by
  by_cases h : L.length ≤ 40
  · exact zero_in L v va W h hv hva hL
  · obtain ⟨a, c, rfl, _⟩ := hv
    exact zero_far L a c va W (by omega) hL
end Go.Proofs.YtfpcoomkbmfchaaGreatDoor
