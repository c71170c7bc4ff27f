/- The contracts of package region's Add, Cut, Set. Condition: the slices lie in memory. -/
import Derived.Test.YtmfpoagimedhnaaD8
namespace Go.Proofs.Ytmfpoagimedhnaa
open Go.RowKit Go.Maps
set_option maxRecDepth 100000

/-- What a call answers that makes areas: a list that is told by D. -/
def MadeD (w : World) (D : Int → List Ar → Prop) (e : Ending) (w' : World) : Prop := ∃ v er M, e = .returned (.tuple #[v, .int .i64 er]) ∧ D er M ∧ ArAt w' v M ∧ Below w.heap.size w w'
theorem Add_okD (L : List Ar) (v : Value) (x y : Int) (d : Bool) (hx : I64 x) (hy : I64 y) (w : World) (h : ArAt w v L) : Calls Try.prog 19 #[v, .agg #[.int .i64 x, .int .i64 y, .bool d]] w (MadeD w (AddD L (x, y, d))) := by
  have hb0 : Below w.heap.size w (w.alloc (.cells #[.int .i64 x, .int .i64 y, .bool d] 32)) := (Below.refl _ _).alloc (Nat.le_refl _) _
  have r0 := heap_alloc_new w (.cells #[.int .i64 x, .int .i64 y, .bool d] 32)
  obtain ⟨w0, hw0⟩ : ∃ w0, w0 = w.alloc (.cells #[.int .i64 x, .int .i64 y, .bool d] 32) := ⟨_, rfl⟩
  rw [← hw0] at hb0 r0
  obtain ⟨q, hq⟩ := chk_ex L
  have CK := Lib.hid (check_okD L v w0 (h.below hb0) hq)
  have H := Lib.hid (h.below hb0)
  have HW := Lib.hid hw0
  have B0 := Lib.hid hb0
  have R0 := Lib.hid r0
  have AP := Lib.hid (fun V => arePages_ok x y hx hy V)
  obtain ⟨f0, f1, f2⟩ := cells3 (show (w.alloc (.cells #[.int .i64 x, .int .i64 y, .bool d] 32)).heap[w.heap.size]? = _ from heap_alloc_new w _)
  rw [← hw0] at f0 f1 f2
  clear h hb0 r0 hw0 hx hy
  rcases hq with ⟨hg, rfl⟩ | ⟨hg, rfl⟩
  · by_cases hfm : FitD x y
    · have FI := Lib.hid (fun V (hV : ArAt V v L) => among_ok L hg.up v x y hfm V hV)
      have TH := Lib.hid (there_cnt (L := L) (a := (x, y, d)) hfm)
      have GE := (cntD_le (fun p => (atD L p).isSome) x y.toNat).1
      simp only at TH
      have PU := Lib.hid (fun V (hV : ArAt V v L) => put_okD L hg.up x y d true hfm v V hV)
      rw [show decide (FitD x y) = true from decide_eq_true hfm] at AP
      generalize cntD (fun p => (atD L p).isSome) x y.toNat = n at FI TH GE
      have OKS : Hid (OkD L ∧ FitD x y) := Lib.hid ⟨hg, hfm⟩
      clear hg hfm
      by_cases hn : n = 0
      · subst hn
        have NT := Lib.hid (TH.out.1 rfl)
        clear TH
        go_enter Try.func19, Try.ntmps19
        go_wp2_with fail
        rw [← HW.out]
        refine CK.out.mono ?_
        rintro e w1 ⟨rfl, hb1⟩
        have B1 := Lib.hid hb1
        obtain ⟨c0, c1, c2⟩ := cells3 (below_block hb1 R0.out)
        clear hb1 f0 f1 f2
        go_wp2_with (first
          | (go_at_call 28; refine (AP.out _).mono ?_; rintro e w2 ⟨rfl, rfl⟩)
          | (go_at_call 30; refine (FI.out _ (H.out.below B1.out)).mono ?_; rintro e w3 ⟨rfl, hb3⟩; have B3 := Lib.hid (B1.out.trans (hb3.mono B1.out.size)); obtain ⟨c0, c1, c2⟩ := cells3 (below_block B3.out R0.out); clear hb3)
          | (go_at_call 31; refine (PU.out _ (H.out.below B3.out)).mono ?_; rintro e w4 ⟨v4, er, M, rfl, ha, hat, hb4⟩; have HA := Lib.hid ha; have AT := Lib.hid hat; have B4 := Lib.hid (B3.out.trans (hb4.mono B3.out.size)); clear ha hat hb4))
        go_ret2
        exact ⟨_, _, _, rfl, Or.inr ⟨OKS.out, Or.inr ⟨NT.out, HA.out⟩⟩, AT.out, B0.out.trans (B4.out.mono B0.out.size)⟩
      · have NT : Hid (¬ ∀ p, HasD (x, y, d) p → atD L p = none) := Lib.hid fun h => hn (TH.out.2 h)
        have hpos : decide (0 < n) = true := decide_eq_true (by omega)
        clear TH hn GE
        go_enter Try.func19, Try.ntmps19
        go_wp2_with fail
        rw [← HW.out]
        refine CK.out.mono ?_
        rintro e w1 ⟨rfl, hb1⟩
        have B1 := Lib.hid hb1
        obtain ⟨c0, c1, c2⟩ := cells3 (below_block hb1 R0.out)
        clear hb1 f0 f1 f2
        go_wp2_with (first
          | (go_at_call 28; refine (AP.out _).mono ?_; rintro e w2 ⟨rfl, rfl⟩)
          | (go_at_call 30; refine (FI.out _ (H.out.below B1.out)).mono ?_; rintro e w3 ⟨rfl, hb3⟩; have B3 := Lib.hid (B1.out.trans (hb3.mono B1.out.size)); clear hb3))
        go_ret2
        exact ⟨_, _, _, rfl, Or.inr ⟨OKS.out, Or.inl ⟨NT.out, rfl, rfl⟩⟩, ArAt.nil _, B0.out.trans (B3.out.mono B0.out.size)⟩
    · have OKS : Hid (¬ (OkD L ∧ FitD x y)) := Lib.hid fun h => hfm h.2
      rw [show decide (FitD x y) = false from decide_eq_false hfm] at AP
      clear hg hfm
      go_enter Try.func19, Try.ntmps19
      go_wp2_with fail
      rw [← HW.out]
      refine CK.out.mono ?_
      rintro e w1 ⟨rfl, hb1⟩
      have B1 := Lib.hid hb1
      obtain ⟨c0, c1, c2⟩ := cells3 (below_block hb1 R0.out)
      clear hb1 f0 f1 f2
      go_wp2_with (first
        | (go_at_call 28; refine (AP.out _).mono ?_; rintro e w2 ⟨rfl, rfl⟩))
      go_ret2
      exact ⟨_, _, _, rfl, Or.inl ⟨OKS.out, rfl, rfl⟩, ArAt.nil _, B0.out.trans (B1.out.mono B0.out.size)⟩
  · have OKS : Hid (¬ (OkD L ∧ FitD x y)) := Lib.hid fun h => hg h.1
    clear hg
    go_enter Try.func19, Try.ntmps19
    go_wp2_with fail
    rw [← HW.out]
    refine CK.out.mono ?_
    rintro e w1 ⟨rfl, hb1⟩
    have B1 := Lib.hid hb1
    clear hb1 f0 f1 f2
    go_wp2
    go_ret2
    exact ⟨_, _, _, rfl, Or.inl ⟨OKS.out, rfl, rfl⟩, ArAt.nil _, B0.out.trans (B1.out.mono B0.out.size)⟩
theorem ask_ex (L : List Ar) (f m : Int) : ∃ k, AskD L f m k := by
  by_cases h : OkD L ∧ FitD f m
  · by_cases hc : CovD L f m
    · exact ⟨0, Or.inr ⟨h, Or.inr ⟨hc, rfl⟩⟩⟩
    · exact ⟨4, Or.inr ⟨h, Or.inl ⟨hc, rfl⟩⟩⟩
  · exact ⟨2, Or.inl ⟨h, rfl⟩⟩
theorem Cut_okD (L : List Ar) (v : Value) (f m : Int) (hf : I64 f) (hm : I64 m) (w : World) (h : ArAt w v L) : Calls Try.prog 22 #[v, .int .i64 f, .int .i64 m] w (MadeD w (CutD L f m)) := by
  obtain ⟨k, hk⟩ := ask_ex L f m
  have AS := Lib.hid (ask_okD L v f m hf hm w h hk)
  have H := Lib.hid h
  clear h hf hm
  rcases hk with ⟨hg, rfl⟩ | ⟨hg, ⟨hc, rfl⟩ | ⟨hc, rfl⟩⟩
  · have OKS := Lib.hid hg
    clear hg
    go_enter Try.func22, Try.ntmps22
    go_wp2_with fail
    refine AS.out.mono ?_
    rintro e w1 ⟨rfl, hb1⟩
    have B1 := Lib.hid hb1
    clear hb1
    go_wp2
    go_ret2
    exact ⟨_, _, _, rfl, Or.inl ⟨OKS.out, rfl, rfl⟩, ArAt.nil _, B1.out⟩
  · have OKS := Lib.hid hg
    have HC := Lib.hid hc
    clear hg hc
    go_enter Try.func22, Try.ntmps22
    go_wp2_with fail
    refine AS.out.mono ?_
    rintro e w1 ⟨rfl, hb1⟩
    have B1 := Lib.hid hb1
    clear hb1
    go_wp2
    go_ret2
    exact ⟨_, _, _, rfl, Or.inr ⟨OKS.out, Or.inl ⟨HC.out, rfl, rfl⟩⟩, ArAt.nil _, B1.out⟩
  · have PU := Lib.hid (fun V (hV : ArAt V v L) => put_okD L hg.1.up f m false false hg.2 v V hV)
    have OKS := Lib.hid hg
    have HC := Lib.hid hc
    clear hg hc
    go_enter Try.func22, Try.ntmps22
    go_wp2_with fail
    refine AS.out.mono ?_
    rintro e w1 ⟨rfl, hb1⟩
    have B1 := Lib.hid hb1
    clear hb1
    have hz := areaZero
    go_wp2_with (first
      | (go_at_call 31; refine (PU.out _ (H.out.below B1.out)).mono ?_; rintro e w4 ⟨v4, er, M, rfl, ha, hat, hb4⟩; have HA := Lib.hid ha; have AT := Lib.hid hat; have B4 := Lib.hid (B1.out.trans (hb4.mono B1.out.size)); clear ha hat hb4))
    go_ret2
    exact ⟨_, _, _, rfl, Or.inr ⟨OKS.out, Or.inr ⟨HC.out, HA.out⟩⟩, AT.out, B4.out⟩
theorem Set_okD (L : List Ar) (v : Value) (f m : Int) (d : Bool) (hf : I64 f) (hm : I64 m) (w : World) (h : ArAt w v L) : Calls Try.prog 24 #[v, .int .i64 f, .int .i64 m, .bool d] w (MadeD w (SetD L f m d)) := by
  obtain ⟨k, hk⟩ := ask_ex L f m
  have AS := Lib.hid (ask_okD L v f m hf hm w h hk)
  have H := Lib.hid h
  clear h hf hm
  rcases hk with ⟨hg, rfl⟩ | ⟨hg, ⟨hc, rfl⟩ | ⟨hc, rfl⟩⟩
  · have OKS := Lib.hid hg
    clear hg
    go_enter Try.func24, Try.ntmps24
    go_wp2_with fail
    refine AS.out.mono ?_
    rintro e w1 ⟨rfl, hb1⟩
    have B1 := Lib.hid hb1
    clear hb1
    go_wp2
    go_ret2
    exact ⟨_, _, _, rfl, Or.inl ⟨OKS.out, rfl, rfl⟩, ArAt.nil _, B1.out⟩
  · have OKS := Lib.hid hg
    have HC := Lib.hid hc
    clear hg hc
    go_enter Try.func24, Try.ntmps24
    go_wp2_with fail
    refine AS.out.mono ?_
    rintro e w1 ⟨rfl, hb1⟩
    have B1 := Lib.hid hb1
    clear hb1
    go_wp2
    go_ret2
    exact ⟨_, _, _, rfl, Or.inr ⟨OKS.out, Or.inl ⟨HC.out, rfl, rfl⟩⟩, ArAt.nil _, B1.out⟩
  · have PU := Lib.hid (fun V (hV : ArAt V v L) => put_okD L hg.1.up f m d true hg.2 v V hV)
    have OKS := Lib.hid hg
    have HC := Lib.hid hc
    clear hg hc
    go_enter Try.func24, Try.ntmps24
    go_wp2_with fail
    refine AS.out.mono ?_
    rintro e w1 ⟨rfl, hb1⟩
    have B1 := Lib.hid hb1
    clear hb1
    go_wp2_with (first
      | (go_at_call 31; refine (PU.out _ (H.out.below B1.out)).mono ?_; rintro e w4 ⟨v4, er, M, rfl, ha, hat, hb4⟩; have HA := Lib.hid ha; have AT := Lib.hid hat; have B4 := Lib.hid (B1.out.trans (hb4.mono B1.out.size)); clear ha hat hb4))
    go_ret2
    exact ⟨_, _, _, rfl, Or.inr ⟨OKS.out, Or.inr ⟨HC.out, HA.out⟩⟩, AT.out, B4.out⟩
end Go.Proofs.Ytmfpoagimedhnaa
