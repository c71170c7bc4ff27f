/- The walk of BudgetDeep. No condition. -/
import Derived.Test.YtedeifejokcleaaU15
namespace Go.Proofs.Ytedeifejokcleaa
open Go.RowKit Go.Maps
set_option maxRecDepth 100000

theorem sumUp_zero {id : Int} : ∀ {L : List Nd}, (∀ n ∈ L, n.2.1 ≠ id) → sumUp id L = 0
  | [], _ => rfl
  | n :: r, h => by
    unfold sumUp
    rw [if_neg (h n (by simp)), sumUp_zero (fun x hx => h x (List.mem_cons_of_mem _ hx))]
    rfl
theorem sumUp_map (id j d : Int) : ∀ (L : List Nd), sumUp id (L.map (setU j d)) = sumUp id L
  | [] => rfl
  | n :: r => by
    rw [List.map_cons]
    unfold sumUp
    rw [sumUp_map id j d r]
    unfold setU
    split <;> rfl
/-- Containers carved one out of the other: the last one, and its quota. -/
structure Deep (L : List Nd) (k hs : Int) : Prop where
  good : Good L
  pos : 1 ≤ k
  at_ : ∃ up, atN k L = some (k, up, hs, 0)
  out : ∀ n ∈ L, n.1 ≤ k
  kids : ∀ n ∈ L, n.2.1 < k
theorem Deep.one {q : Int} (h : 0 ≤ q ∧ q ≤ 65536) : Deep [(1, 0, q, 0)] 1 q := ⟨Good.one q h.1 h.2, by decide, ⟨0, rfl⟩, by simp, by simp⟩
theorem Deep.bounds {L : List Nd} {k hs : Int} (h : Deep L k hs) : 0 ≤ hs ∧ hs ≤ 65536 ∧ k ≤ 8 := by
  obtain ⟨up, ha⟩ := h.at_
  have := h.good.ok _ (atN_some ha).1
  dsimp only [okN] at this
  omega
theorem Deep.left {L : List Nd} {k hs : Int} (h : Deep L k hs) : leftL L k = hs := by
  obtain ⟨up, ha⟩ := h.at_
  rw [leftL_some ha, sumUp_zero (fun n hn => by have := h.kids n hn; omega)]
  simp only
  omega
theorem Deep.open {L : List Nd} {k hs l : Int} (h : Deep L k hs) (hk : k ≤ 7) (h0 : 0 ≤ l) (hl : l ≤ hs) : openE L (k + 1) k (hs - l) = 0 ∧ Deep (openL L (k + 1) k (hs - l)) (k + 1) (hs - l) ∧ leftL (openL L (k + 1) k (hs - l)) k = l ∧ leftL (openL L (k + 1) k (hs - l)) (k + 1) = hs - l := by
  obtain ⟨up, ha⟩ := h.at_
  have hb := h.bounds
  have hp := h.pos
  have hno : atN (k + 1) L = none := atN_none.2 fun n hn => by have := h.out n hn; omega
  have he : openE L (k + 1) k (hs - l) = 0 := openE_zero.2 ⟨⟨fitB_iff.2 (by omega), fitB_iff.2 (by omega)⟩, ⟨_, ha⟩, hno, by rw [h.left]; omega⟩
  have hol : openL L (k + 1) k (hs - l) = insN (k + 1, k, hs - l, 0) L := by unfold openL; rw [if_pos he]
  have hne := atN_none.1 hno
  have e1 : atN (k + 1) (insN (k + 1, k, hs - l, 0) L) = some (k + 1, k, hs - l, 0) := by rw [atN_insN hne, if_pos rfl]
  have e2 : atN k (insN (k + 1, k, hs - l, 0) L) = some (k, up, hs, 0) := by rw [atN_insN hne, if_neg (show k ≠ k + 1 by omega)]; exact ha
  have s1 : sumUp k L = 0 := sumUp_zero fun n hn => by have := h.kids n hn; omega
  have s2 : sumUp (k + 1) L = 0 := sumUp_zero fun n hn => by have := h.kids n hn; omega
  refine ⟨he, ⟨h.good.open _ _ _, by omega, ⟨k, by rw [hol]; exact e1⟩, fun n hn => ?_, fun n hn => ?_⟩, ?_, ?_⟩
  · rw [hol, mem_insN] at hn
    rcases hn with rfl | hn
    · exact Int.le_refl _
    · have := h.out n hn; omega
  · rw [hol, mem_insN] at hn
    rcases hn with rfl | hn
    · simp only; omega
    · have := h.kids n hn; omega
  · rw [hol, leftL_some e2, sumUp_insN, s1, if_pos rfl]
    simp only
    omega
  · rw [hol, leftL_some e1, sumUp_insN, s2, if_neg (show ¬ k = k + 1 by omega)]
    simp only
    omega
theorem Deep.no {L : List Nd} {k hs l : Int} (hl : hs < l) : openE L (k + 1) k (hs - l) = 2 := by
  unfold openE
  rw [if_neg]
  rintro ⟨h1, _⟩
  have := (fitB_iff.1 h1).2
  omega
theorem Deep.over {L : List Nd} {k hs : Int} (h : Deep L k hs) : chargeE L k (hs + 1) ≠ 0 := fun e => by
  have := (chargeE_zero.1 e).2.2
  rw [h.left] at this
  omega
theorem Deep.fill {L : List Nd} {k hs : Int} (h : Deep L k hs) : chargeE L k hs = 0 ∧ leftL (chargeL L k hs) k = 0 ∧ (hs ≠ 0 → closeE (chargeL L k hs) k = 9) := by
  obtain ⟨up, ha⟩ := h.at_
  have hb := h.bounds
  have hp := h.pos
  have he : chargeE L k hs = 0 := chargeE_zero.2 ⟨fitB_iff.2 (by omega), ⟨_, ha⟩, by rw [h.left]; exact Int.le_refl _⟩
  have hcl : chargeL L k hs = L.map (setU k hs) := by unfold chargeL; rw [if_pos he]
  have e1 := (setU_at (d := hs) ha).1
  simp only at e1
  refine ⟨he, ?_, fun hne => ?_⟩
  · rw [hcl, leftL_some e1, sumUp_map, sumUp_zero (fun n hn => by have := h.kids n hn; omega)]
    simp only
    omega
  · rw [hcl]
    unfold closeE
    rw [if_pos (fitB_iff.2 (by omega)), e1]
    simp only
    rw [if_pos (Or.inr (by omega))]
set_option maxHeartbeats 4000000 in
theorem budgetDeep_walk (q l many : Int) (W : World) (_ : I64 q) (hl64 : I64 l) (hm64 : I64 many) : Calls Try.prog 7 #[.int .i64 q, .int .i64 l, .int .i64 many] W fun e w' => e = .returned (.bool true) ∧ Below W.heap.size W w' := by
  cases hn : numB q with
  | false =>
    have NB := Lib.hid (new11_bad q W hn)
    clear hn
    go_enter Try.func7, Try.ntmps7
    go_wp2_with fail
    refine NB.out.mono ?_
    rintro e w1 ⟨rfl, rfl⟩
    go_wp2_with fail
    refine (awake11 _).mono ?_
    rintro e w1 ⟨rfl, hb⟩
    have B1 := Lib.hid hb
    clear hb
    go_wp2
    go_ret
    exact ⟨rfl, B1.out⟩
  | true =>
    have NO := Lib.hid (ob_new (W := W) q (Below.refl _ _) hn)
    have hq : 0 ≤ q ∧ q ≤ 65536 := by simpa [numB] using hn
    have D1 := Lib.hid (Deep.one hq)
    clear hn
    by_cases hin : 0 ≤ l ∧ 1 ≤ many ∧ many ≤ 7
    · obtain ⟨hl0, hm1, hm7⟩ := hin
      go_enter Try.func7, Try.ntmps7
      go_wp2_with fail
      refine NO.out.mono ?_
      rintro e w1 ⟨b, rfl, h, -⟩
      have H1 := Lib.hid h
      clear h
      go_wp2_with fail
      go_loopw [9, 10] (fun hv iv wr => ∃ (j hs : Int) (L : List Nd), iv = .int .i64 j ∧ hv = .int .i64 hs ∧ 2 ≤ j ∧ j ≤ many + 2 ∧ OB W wr b (fun _ => False) L ∧ Deep L (j - 1) hs) (fun _ iv _ => (many + 2 - intOf iv).toNat)
      case atStart => exact ⟨2, q, _, rfl, rfl, by decide, by omega, H1.out, D1.out⟩
      case round =>
        obtain ⟨j, hs, L, rfl, rfl, hj2, hjm, hO, hD⟩ := hrel
        have OO := Lib.hid hO
        have DD := Lib.hid hD
        have hb := hD.bounds
        clear hO hD
        have x0 : IntKind.i64.wrap (many + 1) = many + 1 := IntWalk.i64_in _ (by omega)
        have x1 : IntKind.i64.wrap (j - 1) = j - 1 := IntWalk.i64_in _ (by omega)
        have x2 : IntKind.i64.wrap (hs - l) = hs - l := IntWalk.i64_in _ (by omega)
        by_cases hlt : j ≤ many + 1
        · by_cases hle : l ≤ hs
          · obtain ⟨o1, o2, o3, o4⟩ := DD.out.open (l := l) (by omega) hl0 hle
            rw [show j - 1 + 1 = j by omega] at o1 o2 o3 o4
            have O1 := Lib.hid o1
            have O2 := Lib.hid o2
            have O3 := Lib.hid o3
            have O4 := Lib.hid o4
            clear o1 o2 o3 o4
            go_wp2_with fail
            refine (ob_open OO.out j (j - 1) (hs - l) O1.out).mono ?_
            rintro e w2 ⟨rfl, h, -⟩
            have H2 := Lib.hid h
            clear h
            go_wp2_with fail
            refine (ob_left H2.out (j - 1) O3.out).mono ?_
            rintro e w3 ⟨rfl, hb⟩
            have H3 := Lib.hid (H2.out.step hb)
            clear hb
            go_wp2_with fail
            refine (ob_left H3.out j O4.out).mono ?_
            rintro e w4 ⟨rfl, hb⟩
            have H4 := Lib.hid (H3.out.step hb)
            clear hb
            go_wp2
            go_roundw
            case rel => exact ⟨j + 1, hs - l, _, by go_num, rfl, by omega, by omega, H4.out, by rw [show j + 1 - 1 = j by omega]; exact O2.out⟩
            case measure => simp [intOf]; omega
          · have O1 := Lib.hid (Deep.no (L := L) (k := j - 1) (hs := hs) (l := l) (by omega))
            rw [show j - 1 + 1 = j by omega] at O1
            go_wp2_with fail
            refine (ob_open OO.out j (j - 1) (hs - l) O1.out).mono ?_
            rintro e w2 ⟨rfl, h, -⟩
            have H2 := Lib.hid h.below
            clear h
            go_wp2_with fail
            refine (awake11 _).mono ?_
            rintro e w3 ⟨rfl, hb⟩
            have B3 := Lib.hid (H2.out.trans (hb.mono H2.out.size))
            clear hb
            go_wp2
            go_ret
            exact ⟨rfl, B3.out⟩
        · obtain rfl : j = many + 2 := by omega
          rw [show many + 2 - 1 = many + 1 by omega] at DD
          clear x1 x2 hlt
          obtain ⟨g, hg⟩ : ∃ g, chargeE L (many + 1) (hs + 1) = g := ⟨_, rfl⟩
          have hg0 : g ≠ 0 := by rw [← hg]; exact DD.out.over
          have hgl : chargeL L (many + 1) (hs + 1) = L := by unfold chargeL; rw [if_neg (by rw [hg]; exact hg0)]
          have HG := Lib.hid hg
          have HGL := Lib.hid hgl
          have d1 : (g != 0) = true := by simpa using hg0
          obtain ⟨f1, f2, f3⟩ := DD.out.fill
          have FF1 := Lib.hid f1
          have FF2 := Lib.hid f2
          have FF3 := Lib.hid f3
          have x3 : IntKind.i64.wrap (hs + 1) = hs + 1 := IntWalk.i64_in _ (by omega)
          clear hg hg0 hgl f1 f2 f3
          by_cases hz : hs = 0
          · have d2 : (hs == 0) = true := by simpa using hz
            clear hz
            go_wp2_with fail
            refine (ob_charge OO.out (many + 1) (hs + 1) HG.out).mono ?_
            rw [HGL.out]
            rintro e w2 ⟨rfl, h, -⟩
            have H2 := Lib.hid h
            clear h
            go_wp2_with fail
            refine (ob_charge H2.out (many + 1) hs FF1.out).mono ?_
            rintro e w3 ⟨rfl, h, -⟩
            have H3 := Lib.hid h
            clear h
            go_wp2_with fail
            refine (ob_left H3.out (many + 1) FF2.out).mono ?_
            rintro e w4 ⟨rfl, hb⟩
            have H4 := Lib.hid (H3.out.step hb)
            clear hb
            go_wp2_with fail
            refine (awake11 _).mono ?_
            rintro e w5 ⟨rfl, hb⟩
            have B5 := Lib.hid (H4.out.below.trans (hb.mono H4.out.below.size))
            clear hb
            go_wp2
            go_ret
            exact ⟨rfl, B5.out⟩
          · have d2 : (hs == 0) = false := by simpa using hz
            have FC := Lib.hid (FF3.out hz)
            go_wp2_with fail
            refine (ob_charge OO.out (many + 1) (hs + 1) HG.out).mono ?_
            rw [HGL.out]
            rintro e w2 ⟨rfl, h, -⟩
            have H2 := Lib.hid h
            clear h
            go_wp2_with fail
            refine (ob_charge H2.out (many + 1) hs FF1.out).mono ?_
            rintro e w3 ⟨rfl, h, -⟩
            have H3 := Lib.hid h
            clear h
            go_wp2_with fail
            refine (ob_left H3.out (many + 1) FF2.out).mono ?_
            rintro e w4 ⟨rfl, hb⟩
            have H4 := Lib.hid (H3.out.step hb)
            clear hb
            go_wp2_with fail
            refine (ob_close H4.out (many + 1) FC.out).mono ?_
            rintro e w5 ⟨rfl, h, -⟩
            have H5 := Lib.hid h.below
            clear h
            go_wp2_with fail
            refine (awake11 _).mono ?_
            rintro e w6 ⟨rfl, hb⟩
            have B6 := Lib.hid (H5.out.trans (hb.mono H5.out.size))
            clear hb
            go_wp2
            go_ret
            exact ⟨rfl, B6.out⟩
    · rcases (show l < 0 ∨ (0 ≤ l ∧ many < 1) ∨ (0 ≤ l ∧ 1 ≤ many ∧ 7 < many) by omega) with h1 | ⟨h0, h1⟩ | ⟨h0, h2, h1⟩
      all_goals
        clear hin
        go_enter Try.func7, Try.ntmps7
        go_wp2_with fail
        refine NO.out.mono ?_
        rintro e w1 ⟨b, rfl, h, -⟩
        have H1 := Lib.hid h.below
        clear h
        go_wp2_with fail
        refine (awake11 _).mono ?_
        rintro e w3 ⟨rfl, hb⟩
        have B3 := Lib.hid (H1.out.trans (hb.mono H1.out.size))
        clear hb
        go_wp2
        go_ret
        exact ⟨rfl, B3.out⟩
end Go.Proofs.Ytedeifejokcleaa
