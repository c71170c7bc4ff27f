/- The contracts of package region's Find, Covers, Pages, ask, Add, Cut, Set. Condition: the slices lie in memory. -/
import Derived.Test.YtmfpoagimedhnaaD7
namespace Go.Proofs.Ytmfpoagimedhnaa
open Go.RowKit Go.Maps
set_option maxRecDepth 100000

/-- What Find tells: of areas that are right. -/
def FindD (L : List Ar) (p : Int) (o : Option Bool) : Prop := OkD L ∧ o = atD L p ∨ ¬ OkD L ∧ o = none
def CoversD (L : List Ar) (f m : Int) (c : Bool) : Prop := (c = true ↔ OkD L ∧ FitD f m ∧ CovD L f m)
def PagesD (L : List Ar) (n : Int) : Prop := OkD L ∧ n = pagesD L ∨ ¬ OkD L ∧ n = 0
theorem find_exD (L : List Ar) (p : Int) : ∃ o, FindD L p o := by
  by_cases h : OkD L
  · exact ⟨_, Or.inl ⟨h, rfl⟩⟩
  · exact ⟨_, Or.inr ⟨h, rfl⟩⟩
theorem pages_exD (L : List Ar) : ∃ o, PagesD L o := by
  by_cases h : OkD L
  · exact ⟨_, Or.inl ⟨h, rfl⟩⟩
  · exact ⟨_, Or.inr ⟨h, rfl⟩⟩
theorem covers_exD (L : List Ar) (f m : Int) : ∃ c, CoversD L f m c := by
  by_cases h : OkD L ∧ FitD f m ∧ CovD L f m
  · exact ⟨true, by unfold CoversD; simp [h]⟩
  · exact ⟨false, by unfold CoversD; simp only [Bool.false_eq_true, false_iff]; exact h⟩
theorem FindD.uniq {L : List Ar} {p : Int} {o o' : Option Bool} (h : FindD L p o) (k : FindD L p o') : o = o' := by
  rcases h with ⟨h1, rfl⟩ | ⟨h1, rfl⟩ <;> rcases k with ⟨k1, rfl⟩ | ⟨k1, rfl⟩ <;> first | rfl | exact absurd h1 k1 | exact absurd k1 h1
theorem PagesD.uniq {L : List Ar} {o o' : Int} (h : PagesD L o) (k : PagesD L o') : o = o' := by
  rcases h with ⟨h1, rfl⟩ | ⟨h1, rfl⟩ <;> rcases k with ⟨k1, rfl⟩ | ⟨k1, rfl⟩ <;> first | rfl | exact absurd h1 k1 | exact absurd k1 h1
theorem CoversD.uniq {L : List Ar} {f m : Int} {o o' : Bool} (h : CoversD L f m o) (k : CoversD L f m o') : o = o' := by
  unfold CoversD at h k
  cases o <;> cases o' <;> simp_all
theorem cov_cnt {L : List Ar} {f m : Int} (hf : FitD f m) : cntD (fun p => (atD L p).isSome) f m.toNat = m ↔ CovD L f m := by
  unfold FitD at hf
  have e : (m.toNat : Int) = m := by omega
  have := cntD_all (P := fun p => (atD L p).isSome) (f := f) (n := m.toNat)
  rw [e] at this
  rw [this]
  unfold CovD
  constructor
  · intro h p h1 h2 hn
    have := h p h1 h2
    simp [hn] at this
  · intro h p h1 h2
    have := h p h1 h2
    cases ha : atD L p with
    | none => exact absurd ha this
    | some b => rfl
theorem there_cnt {L : List Ar} {a : Ar} (ha : FitD a.1 a.2.1) : cntD (fun p => (atD L p).isSome) a.1 a.2.1.toNat = 0 ↔ ∀ p, HasD a p → atD L p = none := by
  unfold FitD at ha
  have e : (a.2.1.toNat : Int) = a.2.1 := by omega
  have := cntD_none (P := fun p => (atD L p).isSome) (f := a.1) (n := a.2.1.toNat)
  rw [e] at this
  rw [this]
  constructor
  · intro h p hp
    have := h p hp.1 hp.2
    simpa using this
  · intro h p h1 h2
    rw [h p ⟨h1, h2⟩]
    rfl

theorem Find_okD (L : List Ar) (v : Value) (p : Int) (w : World) (h : ArAt w v L) {o : Option Bool} (ho : FindD L p o) : Calls Try.prog 11 #[v, .int .i64 p] w fun e w' => e = saysD o ∧ Below w.heap.size w w' := by
  obtain ⟨k, hk⟩ := chk_ex L
  have CK := Lib.hid (check_okD L v w h hk)
  have H := Lib.hid h
  clear h
  rcases hk with ⟨hg, rfl⟩ | ⟨hg, rfl⟩
  · have FI := Lib.hid (fun V (hV : ArAt V v L) => find_okD L hg.up v p V hV)
    obtain rfl : o = atD L p := by rcases ho with ⟨_, e⟩ | ⟨n, _⟩; exact e; exact absurd hg n
    clear hg ho
    go_enter Try.func11, Try.ntmps11
    go_wp2_with fail
    refine CK.out.mono ?_
    rintro e w1 ⟨rfl, hb1⟩
    have B1 := Lib.hid hb1
    clear hb1
    go_wp2_with fail
    refine (FI.out _ (H.out.below B1.out)).mono ?_
    rintro e w2 ⟨rfl, hb2⟩
    have B2 := Lib.hid (B1.out.trans (hb2.mono B1.out.size))
    clear hb2
    go_wp2
    go_ret2
    exact ⟨rfl, B2.out⟩
  · obtain rfl : o = none := by rcases ho with ⟨n, _⟩ | ⟨_, e⟩; exact absurd n hg; exact e
    clear hg ho
    go_enter Try.func11, Try.ntmps11
    go_wp2_with fail
    refine CK.out.mono ?_
    rintro e w1 ⟨rfl, hb1⟩
    have B1 := Lib.hid hb1
    clear hb1
    go_wp2
    go_ret2
    exact ⟨rfl, B1.out⟩
theorem Pages_okD (L : List Ar) (v : Value) (w : World) (h : ArAt w v L) {n : Int} (hn : PagesD L n) : Calls Try.prog 17 #[v] w fun e w' => e = .returned (.int .i64 n) ∧ Below w.heap.size w w' := by
  obtain ⟨k, hk⟩ := chk_ex L
  have CK := Lib.hid (check_okD L v w h hk)
  have H := Lib.hid h
  clear h
  rcases hk with ⟨hg, rfl⟩ | ⟨hg, rfl⟩
  · have FI := Lib.hid (fun V (hV : ArAt V v L) => among_ok L hg.up v 0 1024 (by unfold FitD; omega) V hV)
    obtain rfl : n = cntD (fun p => (atD L p).isSome) 0 (1024 : Int).toNat := by rcases hn with ⟨_, e⟩ | ⟨n, _⟩; exact e; exact absurd hg n
    generalize cntD (fun p => (atD L p).isSome) 0 (1024 : Int).toNat = n at *
    clear hg hn
    go_enter Try.func17, Try.ntmps17
    go_wp2_with fail
    refine CK.out.mono ?_
    rintro e w1 ⟨rfl, hb1⟩
    have B1 := Lib.hid hb1
    clear hb1
    go_wp2_with fail
    refine (FI.out _ (H.out.below B1.out)).mono ?_
    rintro e w2 ⟨rfl, hb2⟩
    have B2 := Lib.hid (B1.out.trans (hb2.mono B1.out.size))
    clear hb2
    go_wp2
    go_ret
    exact ⟨rfl, B2.out⟩
  · obtain rfl : n = 0 := by rcases hn with ⟨n, _⟩ | ⟨_, e⟩; exact absurd n hg; exact e
    clear hg hn
    go_enter Try.func17, Try.ntmps17
    go_wp2_with fail
    refine CK.out.mono ?_
    rintro e w1 ⟨rfl, hb1⟩
    have B1 := Lib.hid hb1
    clear hb1
    go_wp2
    go_ret
    exact ⟨rfl, B1.out⟩
theorem Covers_okD (L : List Ar) (v : Value) (f m : Int) (hf : I64 f) (hm : I64 m) (w : World) (h : ArAt w v L) {c : Bool} (hc : CoversD L f m c) : Calls Try.prog 15 #[v, .int .i64 f, .int .i64 m] w fun e w' => e = .returned (.bool c) ∧ Below w.heap.size w w' := by
  obtain ⟨k, hk⟩ := chk_ex L
  have CK := Lib.hid (check_okD L v w h hk)
  have H := Lib.hid h
  have HC := Lib.hid hc
  have AP := Lib.hid (fun V => arePages_ok f m hf hm V)
  clear h hc
  rcases hk with ⟨hg, rfl⟩ | ⟨hg, rfl⟩
  · by_cases hfm : FitD f m
    · have FI := Lib.hid (fun V (hV : ArAt V v L) => among_ok L hg.up v f m hfm V hV)
      obtain ⟨n, hn⟩ : ∃ n, n = cntD (fun p => (atD L p).isSome) f m.toNat := ⟨_, rfl⟩
      obtain ⟨d, hd⟩ : ∃ d, d = (n == m) := ⟨_, rfl⟩
      obtain rfl : d = c := CoversD.uniq (L := L) (f := f) (m := m) (by
        unfold CoversD
        rw [hd, hn, beq_iff_eq, cov_cnt hfm]
        exact ⟨fun e => ⟨hg, hfm, e⟩, fun e => e.2.2⟩) HC.out
      rw [← hn] at FI
      rw [show decide (FitD f m) = true from decide_eq_true hfm] at AP
      have HD := hd.symm
      clear hn hd hfm hg HC
      go_enter Try.func15, Try.ntmps15
      go_wp2_with (first
        | (go_at_call 13; refine CK.out.mono ?_; rintro e w1 ⟨rfl, hb1⟩; have B1 := Lib.hid hb1; clear hb1)
        | (go_at_call 28; refine (AP.out _).mono ?_; rintro e w2 ⟨rfl, rfl⟩)
        | (go_at_call 30; refine (FI.out _ (H.out.below B1.out)).mono ?_; rintro e w3 ⟨rfl, hb3⟩; have B3 := Lib.hid (B1.out.trans (hb3.mono B1.out.size)); clear hb3))
      go_ret
      exact ⟨rfl, B3.out⟩
    · obtain rfl : c = false := by
        have := HC.out
        cases c with
        | false => rfl
        | true => exact absurd (this.1 rfl).2.1 hfm
      rw [show decide (FitD f m) = false from decide_eq_false hfm] at AP
      clear hfm hg HC
      go_enter Try.func15, Try.ntmps15
      go_wp2_with (first
        | (go_at_call 13; refine CK.out.mono ?_; rintro e w1 ⟨rfl, hb1⟩; have B1 := Lib.hid hb1; clear hb1)
        | (go_at_call 28; refine (AP.out _).mono ?_; rintro e w2 ⟨rfl, rfl⟩))
      go_ret
      exact ⟨rfl, B1.out⟩
  · obtain rfl : c = false := by
      have := HC.out
      cases c with
      | false => rfl
      | true => exact absurd (this.1 rfl).1 hg
    clear hg HC
    go_enter Try.func15, Try.ntmps15
    go_wp2_with (first
      | (go_at_call 13; refine CK.out.mono ?_; rintro e w1 ⟨rfl, hb1⟩; have B1 := Lib.hid hb1; clear hb1))
    go_ret
    exact ⟨rfl, B1.out⟩
/-- What ask answers. -/
def AskD (L : List Ar) (f m : Int) (k : Int) : Prop := ¬ (OkD L ∧ FitD f m) ∧ k = 2 ∨ (OkD L ∧ FitD f m) ∧ (¬ CovD L f m ∧ k = 4 ∨ CovD L f m ∧ k = 0)
theorem ask_okD (L : List Ar) (v : Value) (f m : Int) (hf : I64 f) (hm : I64 m) (w : World) (h : ArAt w v L) {k : Int} (hk : AskD L f m k) : Calls Try.prog 35 #[v, .int .i64 f, .int .i64 m] w fun e w' => e = .returned (.int .i64 k) ∧ Below w.heap.size w w' := by
  obtain ⟨q, hq⟩ := chk_ex L
  have CK := Lib.hid (check_okD L v w h hq)
  have H := Lib.hid h
  have HK := Lib.hid hk
  have AP := Lib.hid (fun V => arePages_ok f m hf hm V)
  clear h hk
  rcases hq with ⟨hg, rfl⟩ | ⟨hg, rfl⟩
  · by_cases hfm : FitD f m
    · obtain ⟨c, hc⟩ := covers_exD L f m
      have CO := Lib.hid (fun V (hV : ArAt V v L) => Covers_okD L v f m hf hm V hV hc)
      rw [show decide (FitD f m) = true from decide_eq_true hfm] at AP
      cases c with
      | true =>
        obtain rfl : k = 0 := by
          have hcv := (hc.1 rfl).2.2
          rcases HK.out with ⟨n, _⟩ | ⟨_, ⟨n, _⟩ | ⟨_, e⟩⟩
          · exact absurd ⟨hg, hfm⟩ n
          · exact absurd hcv n
          · exact e
        clear hc hfm hg HK
        go_enter Try.func35, Try.ntmps35
        go_wp2_with (first
          | (go_at_call 13; refine CK.out.mono ?_; rintro e w1 ⟨rfl, hb1⟩; have B1 := Lib.hid hb1; clear hb1)
          | (go_at_call 28; refine (AP.out _).mono ?_; rintro e w2 ⟨rfl, rfl⟩)
          | (go_at_call 15; refine (CO.out _ (H.out.below B1.out)).mono ?_; rintro e w3 ⟨rfl, hb3⟩; have B3 := Lib.hid (B1.out.trans (hb3.mono B1.out.size)); clear hb3))
        go_ret
        exact ⟨rfl, B3.out⟩
      | false =>
        obtain rfl : k = 4 := by
          have hcv : ¬ CovD L f m := fun h => by have := hc.2 ⟨hg, hfm, h⟩; cases this
          rcases HK.out with ⟨n, _⟩ | ⟨_, ⟨_, e⟩ | ⟨n, _⟩⟩
          · exact absurd ⟨hg, hfm⟩ n
          · exact e
          · exact absurd n hcv
        clear hc hfm hg HK
        go_enter Try.func35, Try.ntmps35
        go_wp2_with (first
          | (go_at_call 13; refine CK.out.mono ?_; rintro e w1 ⟨rfl, hb1⟩; have B1 := Lib.hid hb1; clear hb1)
          | (go_at_call 28; refine (AP.out _).mono ?_; rintro e w2 ⟨rfl, rfl⟩)
          | (go_at_call 15; refine (CO.out _ (H.out.below B1.out)).mono ?_; rintro e w3 ⟨rfl, hb3⟩; have B3 := Lib.hid (B1.out.trans (hb3.mono B1.out.size)); clear hb3))
        go_ret
        exact ⟨rfl, B3.out⟩
    · obtain rfl : k = 2 := by
        rcases HK.out with ⟨_, e⟩ | ⟨n, _⟩
        · exact e
        · exact absurd n.2 hfm
      rw [show decide (FitD f m) = false from decide_eq_false hfm] at AP
      clear hfm hg HK
      go_enter Try.func35, Try.ntmps35
      go_wp2_with (first
        | (go_at_call 13; refine CK.out.mono ?_; rintro e w1 ⟨rfl, hb1⟩; have B1 := Lib.hid hb1; clear hb1)
        | (go_at_call 28; refine (AP.out _).mono ?_; rintro e w2 ⟨rfl, rfl⟩))
      go_ret
      exact ⟨rfl, B1.out⟩
  · obtain rfl : k = 2 := by
      rcases HK.out with ⟨_, e⟩ | ⟨n, _⟩
      · exact e
      · exact absurd n.1 hg
    clear hg HK
    go_enter Try.func35, Try.ntmps35
    go_wp2_with (first
      | (go_at_call 13; refine CK.out.mono ?_; rintro e w1 ⟨rfl, hb1⟩; have B1 := Lib.hid hb1; clear hb1))
    go_ret
    exact ⟨rfl, B1.out⟩
end Go.Proofs.Ytmfpoagimedhnaa
