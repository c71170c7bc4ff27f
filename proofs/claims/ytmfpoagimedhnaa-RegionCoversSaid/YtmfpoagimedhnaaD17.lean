/- The contracts of the document's Cut and Set of layer 14. Condition: the slice lies in memory. -/
import Derived.Test.YtmfpoagimedhnaaD16
namespace Go.Proofs.Ytmfpoagimedhnaa
open Go.RowKit Go.Maps
set_option maxRecDepth 100000

theorem less_none {L : List Ar} {f m : Int} (d : Bool) (hf : FitD f m) (up : UpD L) : ∀ p, HasD (f, m, d) p → atD (lessL f m L) p = none := fun p hp => by
  rw [less_at hf up]
  exact if_pos hp
set_option maxHeartbeats 2000000 in
theorem rCut_okD (L : List Ar) (v : Value) (f m : Int) (hf : I64 f) (hm : I64 m) (w : World) (h : ArAt w v L) : Calls Try.prog 23 #[v, .int .i64 f, .int .i64 m] w (MadeD w (CutD L f m)) := by
  obtain ⟨q, hq⟩ := chk_ex L
  obtain ⟨cv, hcv⟩ := covers_exD L f m
  have CK := Lib.hid (rcheck_okD L v w h hq)
  have CO := Lib.hid (fun V (hV : ArAt V v L) => rcovers_okD L v f m hf hm V hV hcv)
  have AP := Lib.hid (fun V => fits14 f m hf hm V)
  have H := Lib.hid h
  clear h hf hm
  rcases hq with ⟨hg, rfl⟩ | ⟨hg, rfl⟩
  · by_cases hfm : FitD f m
    · rw [show decide (FitD f m) = true from decide_eq_true hfm] at AP
      have OKS : Hid (OkD L ∧ FitD f m) := Lib.hid ⟨hg, hfm⟩
      cases cv with
      | true =>
        have COV := Lib.hid ((hcv.1 rfl).2.2)
        have LE := Lib.hid (fun V (hV : ArAt V v L) => less_ok L hg f m hfm v V hV)
        clear hg hfm hcv
        go_enter Try.func23, Try.ntmps23
        go_wp2_with (first
          | (go_at_call 14; refine CK.out.mono ?_; rintro e w1 ⟨rfl, hb1⟩; have B1 := Lib.hid hb1; clear hb1)
          | (go_at_call 26; refine (AP.out _).mono ?_; rintro e w2 ⟨rfl, rfl⟩)
          | (go_at_call 16; refine (CO.out _ (H.out.below B1.out)).mono ?_; rintro e w3 ⟨rfl, hb3⟩; have B3 := Lib.hid (B1.out.trans (hb3.mono B1.out.size)); clear hb3)
          | (go_at_call 36; refine (LE.out _ (H.out.below B3.out)).mono ?_; rintro e w4 ⟨v4, rfl, ho4, hb4⟩; have A4 := Lib.hid (OwnD.of ho4 (by have := (less_up OKS.out.2 OKS.out.1.up).len; omega) (less_up OKS.out.2 OKS.out.1.up).wide); have B4 := Lib.hid (B3.out.trans (hb4.mono B3.out.size)); clear ho4 hb4)
          | (go_at_call 33; refine (few_ok (lessL f m L) A4.out.len v4 _ A4.out (less_up OKS.out.2 OKS.out.1.up) (less_at OKS.out.2 OKS.out.1.up)).mono ?_; rintro e w5 ⟨v5, er, M, rfl, ha, hat, hb5⟩; have HA := Lib.hid ha; have AT := Lib.hid hat; have B5 := Lib.hid (B4.out.trans (hb5.mono B4.out.size)); clear ha hat hb5))
        go_ret2
        exact ⟨_, _, _, rfl, Or.inr ⟨OKS.out, Or.inr ⟨COV.out, HA.out⟩⟩, AT.out, B5.out⟩
      | false =>
        have COV : Hid (¬ CovD L f m) := Lib.hid fun h => by have := hcv.2 ⟨hg, hfm, h⟩; cases this
        clear hg hfm hcv
        go_enter Try.func23, Try.ntmps23
        go_wp2_with (first
          | (go_at_call 14; refine CK.out.mono ?_; rintro e w1 ⟨rfl, hb1⟩; have B1 := Lib.hid hb1; clear hb1)
          | (go_at_call 26; refine (AP.out _).mono ?_; rintro e w2 ⟨rfl, rfl⟩)
          | (go_at_call 16; refine (CO.out _ (H.out.below B1.out)).mono ?_; rintro e w3 ⟨rfl, hb3⟩; have B3 := Lib.hid (B1.out.trans (hb3.mono B1.out.size)); clear hb3))
        go_ret2
        exact ⟨_, _, _, rfl, Or.inr ⟨OKS.out, Or.inl ⟨COV.out, rfl, rfl⟩⟩, ArAt.nil _, B3.out⟩
    · have OKS : Hid (¬ (OkD L ∧ FitD f m)) := Lib.hid fun h => hfm h.2
      rw [show decide (FitD f m) = false from decide_eq_false hfm] at AP
      clear hg hfm hcv
      go_enter Try.func23, Try.ntmps23
      go_wp2_with (first
        | (go_at_call 14; refine CK.out.mono ?_; rintro e w1 ⟨rfl, hb1⟩; have B1 := Lib.hid hb1; clear hb1)
        | (go_at_call 26; refine (AP.out _).mono ?_; rintro e w2 ⟨rfl, rfl⟩))
      go_ret2
      exact ⟨_, _, _, rfl, Or.inl ⟨OKS.out, rfl, rfl⟩, ArAt.nil _, B1.out⟩
  · have OKS : Hid (¬ (OkD L ∧ FitD f m)) := Lib.hid fun h => hg h.1
    clear hg hcv
    go_enter Try.func23, Try.ntmps23
    go_wp2_with (first
      | (go_at_call 14; refine CK.out.mono ?_; rintro e w1 ⟨rfl, hb1⟩; have B1 := Lib.hid hb1; clear hb1))
    go_ret2
    exact ⟨_, _, _, rfl, Or.inl ⟨OKS.out, rfl, rfl⟩, ArAt.nil _, B1.out⟩
set_option maxHeartbeats 2000000 in
theorem rSet_okD (L : List Ar) (v : Value) (f m : Int) (d : Bool) (hf : I64 f) (hm : I64 m) (w : World) (h : ArAt w v L) : Calls Try.prog 25 #[v, .int .i64 f, .int .i64 m, .bool d] w (MadeD w (SetD L f m d)) := by
  obtain ⟨q, hq⟩ := chk_ex L
  obtain ⟨cv, hcv⟩ := covers_exD L f m
  have CK := Lib.hid (rcheck_okD L v w h hq)
  have CO := Lib.hid (fun V (hV : ArAt V v L) => rcovers_okD L v f m hf hm V hV hcv)
  have AP := Lib.hid (fun V => fits14 f m hf hm V)
  have H := Lib.hid h
  clear h hf hm
  rcases hq with ⟨hg, rfl⟩ | ⟨hg, rfl⟩
  · by_cases hfm : FitD f m
    · rw [show decide (FitD f m) = true from decide_eq_true hfm] at AP
      have OKS : Hid (OkD L ∧ FitD f m) := Lib.hid ⟨hg, hfm⟩
      cases cv with
      | true =>
        have COV := Lib.hid ((hcv.1 rfl).2.2)
        have LE := Lib.hid (fun V (hV : ArAt V v L) => less_ok L hg f m hfm v V hV)
        have WI := Lib.hid (fun u V (hV : ArAt V u (lessL f m L)) => with_ok (lessL f m L) (less_up hfm hg.up) f m d hfm (less_none d hfm hg.up) u V hV)
        have EQ : Hid (∀ p, withD (f, m, d) (atD (lessL f m L)) p = withD (f, m, d) (atD L) p) := Lib.hid fun p => by
          rw [show atD (lessL f m L) = lessD f m (atD L) from funext fun p => less_at hfm hg.up p]
          exact with_less f m d (atD L) p
        clear hg hfm hcv
        go_enter Try.func25, Try.ntmps25
        go_wp2_with (first
          | (go_at_call 14; refine CK.out.mono ?_; rintro e w1 ⟨rfl, hb1⟩; have B1 := Lib.hid hb1; clear hb1)
          | (go_at_call 26; refine (AP.out _).mono ?_; rintro e w2 ⟨rfl, rfl⟩)
          | (go_at_call 16; refine (CO.out _ (H.out.below B1.out)).mono ?_; rintro e w3 ⟨rfl, hb3⟩; have B3 := Lib.hid (B1.out.trans (hb3.mono B1.out.size)); clear hb3)
          | (go_at_call 36; refine (LE.out _ (H.out.below B3.out)).mono ?_; rintro e w4 ⟨v4, rfl, ho4, hb4⟩; have A4 := Lib.hid (OwnD.of ho4 (by have := (less_up OKS.out.2 OKS.out.1.up).len; omega) (less_up OKS.out.2 OKS.out.1.up).wide); have B4 := Lib.hid (B3.out.trans (hb4.mono B3.out.size)); clear ho4 hb4)
          | (go_at_call 34; refine (WI.out v4 _ A4.out).mono ?_; rintro e w6 ⟨v6, R, rfl, ha6, hu6, he6, hb6⟩; have A6 := Lib.hid ha6; have U6 := Lib.hid hu6; have E6 := Lib.hid (fun p => (he6 p).trans (EQ.out p)); have B6 := Lib.hid (B4.out.trans (hb6.mono B4.out.size)); clear ha6 hu6 he6 hb6)
          | (go_at_call 33; refine (few_ok R A6.out.len v6 _ A6.out U6.out E6.out).mono ?_; rintro e w5 ⟨v5, er, M, rfl, ha, hat, hb5⟩; have HA := Lib.hid ha; have AT := Lib.hid hat; have B5 := Lib.hid (B6.out.trans (hb5.mono B6.out.size)); clear ha hat hb5))
        go_ret2
        exact ⟨_, _, _, rfl, Or.inr ⟨OKS.out, Or.inr ⟨COV.out, HA.out⟩⟩, AT.out, B5.out⟩
      | false =>
        have COV : Hid (¬ CovD L f m) := Lib.hid fun h => by have := hcv.2 ⟨hg, hfm, h⟩; cases this
        clear hg hfm hcv
        go_enter Try.func25, Try.ntmps25
        go_wp2_with (first
          | (go_at_call 14; refine CK.out.mono ?_; rintro e w1 ⟨rfl, hb1⟩; have B1 := Lib.hid hb1; clear hb1)
          | (go_at_call 26; refine (AP.out _).mono ?_; rintro e w2 ⟨rfl, rfl⟩)
          | (go_at_call 16; refine (CO.out _ (H.out.below B1.out)).mono ?_; rintro e w3 ⟨rfl, hb3⟩; have B3 := Lib.hid (B1.out.trans (hb3.mono B1.out.size)); clear hb3))
        go_ret2
        exact ⟨_, _, _, rfl, Or.inr ⟨OKS.out, Or.inl ⟨COV.out, rfl, rfl⟩⟩, ArAt.nil _, B3.out⟩
    · have OKS : Hid (¬ (OkD L ∧ FitD f m)) := Lib.hid fun h => hfm h.2
      rw [show decide (FitD f m) = false from decide_eq_false hfm] at AP
      clear hg hfm hcv
      go_enter Try.func25, Try.ntmps25
      go_wp2_with (first
        | (go_at_call 14; refine CK.out.mono ?_; rintro e w1 ⟨rfl, hb1⟩; have B1 := Lib.hid hb1; clear hb1)
        | (go_at_call 26; refine (AP.out _).mono ?_; rintro e w2 ⟨rfl, rfl⟩))
      go_ret2
      exact ⟨_, _, _, rfl, Or.inl ⟨OKS.out, rfl, rfl⟩, ArAt.nil _, B1.out⟩
  · have OKS : Hid (¬ (OkD L ∧ FitD f m)) := Lib.hid fun h => hg h.1
    clear hg hcv
    go_enter Try.func25, Try.ntmps25
    go_wp2_with (first
      | (go_at_call 14; refine CK.out.mono ?_; rintro e w1 ⟨rfl, hb1⟩; have B1 := Lib.hid hb1; clear hb1))
    go_ret2
    exact ⟨_, _, _, rfl, Or.inl ⟨OKS.out, rfl, rfl⟩, ArAt.nil _, B1.out⟩
end Go.Proofs.Ytmfpoagimedhnaa
