/- The contracts of the document's Find, Covers, Pages, Same, meet of layer 14. Condition: the slices lie in memory. -/
import Derived.Test.YtmfpoagimedhnaaD10
import Derived.Test.YtmfpoagimedhnaaD8
namespace Go.Proofs.Ytmfpoagimedhnaa
open Go.RowKit Go.Maps
set_option maxRecDepth 100000

set_option maxHeartbeats 2000000 in
theorem rfind_okD (L : List Ar) (v : Value) (p : Int) (w : World) (h : ArAt w v L) {r : Option Bool} (hr : FindD L p r) : Calls Try.prog 12 #[v, .int .i64 p] w fun e w' => e = saysD r ∧ Below w.heap.size w w' := by
  obtain ⟨k, hk⟩ := chk_ex L
  have CK := Lib.hid (rcheck_okD L v w h hk)
  have hl := h.len
  obtain ⟨a, c, rfl⟩ := h.form
  obtain ⟨n, hn⟩ : ∃ n, n = L.length := ⟨_, rfl⟩
  rw [← hn] at hl h CK ⊢
  have H := Lib.hid h
  have HN := Lib.hid hn
  have HR := Lib.hid hr
  clear hn h hr
  rcases hk with ⟨hg, rfl⟩ | ⟨hg, rfl⟩
  · have HR2 : Hid (r = atD L p) := Lib.hid (by rcases HR.out with ⟨_, e⟩ | ⟨n, _⟩; exact e; exact absurd hg n)
    have UP := Lib.hid hg.up
    clear HR hg
    go_enter Try.func12, Try.ntmps12
    go_wp2_with fail
    refine CK.out.mono ?_
    rintro e w1 ⟨rfl, hb1⟩
    have B1 := Lib.hid hb1
    clear hb1
    go_wp2_with fail
    go_loopw [6] (fun i wr => ∃ j : Nat, i = .int .i64 (j : Int) ∧ j ≤ n ∧ Below w.heap.size w wr ∧ ∀ i, i < j → ¬ HasD (L.getD i default) p) (fun i _ => (n - (intOf i).toNat))
    case atStart => exact ⟨0, rfl, Nat.zero_le _, B1.out, fun i hi => absurd hi (Nat.not_lt_zero _)⟩
    case round =>
      obtain ⟨j, rfl, hj, hB, hlow⟩ := hrel
      have B := Lib.hid hB
      have LOW := Lib.hid hlow
      clear hB hlow
      by_cases hlt : j < n
      · have hjl : j < L.length := by rw [← HN.out]; exact hlt
        obtain ⟨⟨x, y, b⟩, hy⟩ : ∃ y, L.getD j default = y := ⟨_, rfl⟩
        obtain ⟨g, o, rfl, hbl, -, c0, c1, c2⟩ := (H.out.below B.out).at_ (by rw [← HN.out]; exact hlt) hy
        simp only at c0 c1 c2
        have hf := fit_at UP.out hjl
        have hhit := at_hit (p := p) UP.out hjl
        rw [hy] at hf hhit
        obtain ⟨z1, z2, z3⟩ := hf
        simp only at z1 z2 z3
        have HIT := Lib.hid hhit
        have LOW2 : Hid (¬ HasD (x, y, b) p → ∀ i, i < j + 1 → ¬ HasD (L.getD i default) p) := Lib.hid fun hh i hi => by
          by_cases e : i = j
          · rw [e, hy]; exact hh
          · exact LOW.out i (by omega)
        clear hhit hy
        have wr2 : IntKind.i64.wrap (x + y) = x + y := IntWalk.i64_in _ (by omega)
        by_cases h1 : x ≤ p
        · have d1 : decide (x ≤ p) = true := decide_eq_true h1
          by_cases h2 : p < x + y
          · have d2 : decide (p < x + y) = true := decide_eq_true h2
            obtain rfl : r = some b := HR2.out.trans (HIT.out ⟨h1, h2⟩)
            clear h1 h2
            go_wp2_with fail
            go_quiet (fail)
            go_wp2
            go_ret2
            exact ⟨by cases b <;> rfl, below_drewN B.out _⟩
          · have d2 : decide (p < x + y) = false := decide_eq_false h2
            have LOW3 := Lib.hid (LOW2.out (fun hh => h2 hh.2))
            clear h1 h2
            go_wp2_with fail
            go_quiet (fail)
            clear d1 d2 wr2
            go_wp2
            go_roundw
            case rel => exact ⟨j + 1, by go_num, by omega, below_drewN B.out _, LOW3.out⟩
            case measure => simp [intOf]; omega
        · have d1 : decide (x ≤ p) = false := decide_eq_false h1
          have LOW3 := Lib.hid (LOW2.out (fun hh => h1 hh.1))
          clear h1
          go_wp2_with fail
          go_quiet (fail)
          clear d1 wr2
          go_wp2
          go_roundw
          case rel => exact ⟨j + 1, by go_num, by omega, below_drewN B.out _, LOW3.out⟩
          case measure => simp [intOf]; omega
      · obtain rfl : j = n := by omega
        obtain rfl : r = none := HR2.out.trans (at_miss (by rw [← HN.out]; exact LOW.out))
        clear hlt
        go_wp2
        go_ret2
        exact ⟨rfl, B.out⟩
  · obtain rfl : r = none := by rcases HR.out with ⟨n, _⟩ | ⟨_, e⟩; exact absurd n hg; exact e
    clear HR hg
    go_enter Try.func12, Try.ntmps12
    go_wp2_with fail
    refine CK.out.mono ?_
    rintro e w1 ⟨rfl, hb1⟩
    have B1 := Lib.hid hb1
    clear hb1
    go_wp2
    go_ret2
    exact ⟨rfl, B1.out⟩
theorem cov_step {L : List Ar} {f : Int} {j : Nat} (h : CovD L f j) (hs : atD L (f + j) ≠ none) : CovD L f (j + 1 : Nat) := fun p h1 h2 => by
  by_cases e : p = f + j
  · rw [e]; exact hs
  · exact h p h1 (by omega)
set_option maxHeartbeats 2000000 in
theorem rcovers_okD (L : List Ar) (v : Value) (f m : Int) (hf : I64 f) (hm : I64 m) (w : World) (h : ArAt w v L) {c : Bool} (hc : CoversD L f m c) : Calls Try.prog 16 #[v, .int .i64 f, .int .i64 m] w fun e w' => e = .returned (.bool c) ∧ Below w.heap.size w w' := by
  obtain ⟨k, hk⟩ := chk_ex L
  have CK := Lib.hid (rcheck_okD L v w h hk)
  have H := Lib.hid h
  have HC := Lib.hid hc
  have AP := Lib.hid (fun V => fits14 f m hf hm V)
  clear h hc
  rcases hk with ⟨hg, rfl⟩ | ⟨hg, rfl⟩
  · by_cases hfm : FitD f m
    · have FI := Lib.hid (fun V (hV : ArAt V v L) p => rfind_okD L v p V hV (Or.inl ⟨hg, rfl⟩))
      rw [show decide (FitD f m) = true from decide_eq_true hfm] at AP
      have CV : Hid (CovD L f m → c = true) := Lib.hid fun h => HC.out.2 ⟨hg, hfm, h⟩
      have CN : Hid (¬ CovD L f m → c = false) := Lib.hid fun h => by
        have := HC.out
        cases c with
        | false => rfl
        | true => exact absurd (this.1 rfl).2.2 h
      obtain ⟨f1, f2, f3⟩ := hfm
      obtain ⟨n, rfl⟩ : ∃ n : Nat, m = (n : Int) := ⟨m.toNat, by omega⟩
      clear hg HC
      go_enter Try.func16, Try.ntmps16
      go_wp2_with (first
        | (go_at_call 14; refine CK.out.mono ?_; rintro e w1 ⟨rfl, hb1⟩; have B1 := Lib.hid hb1; clear hb1)
        | (go_at_call 26; refine (AP.out _).mono ?_; rintro e w2 ⟨rfl, rfl⟩))
      go_loopw [7] (fun i wr => ∃ j : Nat, i = .int .i64 (f + (j : Int)) ∧ j ≤ n ∧ Below w.heap.size w wr ∧ CovD L f j) (fun i _ => ((f + n) - intOf i).toNat)
      case atStart => exact ⟨0, by simp, Nat.zero_le _, B1.out, fun p h1 h2 => by omega⟩
      case round =>
        obtain ⟨j, rfl, hj, hB, hcov⟩ := hrel
        have B := Lib.hid hB
        have COV := Lib.hid hcov
        clear hB hcov
        by_cases hlt : j < n
        · have hlt2 : f + (j : Int) < f + (n : Int) := by omega
          have FF := Lib.hid (FI.out _ (H.out.below B.out) (f + (j : Int)))
          cases hp : atD L (f + (j : Int)) with
          | none =>
            obtain rfl : c = false := CN.out fun hc => hc (f + j) (by omega) (by omega) hp
            rw [hp] at FF
            clear hp
            go_wp2_with fail
            refine FF.out.mono ?_
            rintro e w3 ⟨rfl, hb3⟩
            have B3 := Lib.hid (B.out.trans (hb3.mono B.out.size))
            clear hb3
            go_wp2
            go_ret
            exact ⟨rfl, B3.out⟩
          | some b =>
            have COV1 := Lib.hid (cov_step COV.out (by rw [hp]; simp))
            rw [hp] at FF
            clear hp
            go_wp2_with fail
            refine FF.out.mono ?_
            rintro e w3 ⟨rfl, hb3⟩
            have B3 := Lib.hid (B.out.trans (hb3.mono B.out.size))
            clear hb3
            go_wp2
            go_roundw
            case rel => exact ⟨j + 1, by rw [show (((j + 1 : Nat) : Int)) = (j : Int) + 1 by omega, Int.add_assoc], by omega, B3.out, COV1.out⟩
            case measure => simp [intOf]; omega
        · obtain rfl : j = n := by omega
          obtain rfl : c = true := CV.out COV.out
          clear hlt
          go_wp2
          go_ret
          exact ⟨rfl, B.out⟩
    · obtain rfl : c = false := by
        have := HC.out
        cases c with
        | false => rfl
        | true => exact absurd (this.1 rfl).2.1 hfm
      rw [show decide (FitD f m) = false from decide_eq_false hfm] at AP
      clear hfm hg HC
      go_enter Try.func16, Try.ntmps16
      go_wp2_with (first
        | (go_at_call 14; refine CK.out.mono ?_; rintro e w1 ⟨rfl, hb1⟩; have B1 := Lib.hid hb1; clear hb1)
        | (go_at_call 26; refine (AP.out _).mono ?_; rintro e w2 ⟨rfl, rfl⟩))
      go_ret
      exact ⟨rfl, B1.out⟩
  · obtain rfl : c = false := by
      have := HC.out
      cases c with
      | false => rfl
      | true => exact absurd (this.1 rfl).1 hg
    clear hg HC
    go_enter Try.func16, Try.ntmps16
    go_wp2_with (first
      | (go_at_call 14; refine CK.out.mono ?_; rintro e w1 ⟨rfl, hb1⟩; have B1 := Lib.hid hb1; clear hb1))
    go_ret
    exact ⟨rfl, B1.out⟩
theorem meet_okD (x y : Int) (b : Bool) (x' y' : Int) (b' : Bool) (hx : FitD x y) (hx' : FitD x' y') (w : World) : Calls Try.prog 32 #[.agg #[.int .i64 x, .int .i64 y, .bool b], .agg #[.int .i64 x', .int .i64 y', .bool b']] w fun e w' => e = .returned (.bool (decide (MeetD (x, y, b) (x', y', b')))) ∧ Below w.heap.size w w' := by
  obtain ⟨x1, x2, x3⟩ := hx
  obtain ⟨p1, p2, p3⟩ := hx'
  have hbw : ∀ o o', Below w.heap.size w ((w.alloc o).alloc o') := fun o o' => ((Below.refl _ _).alloc (Nat.le_refl _) _).alloc (by simp) _
  have HB := Lib.hid hbw
  clear hbw
  by_cases h1 : x < x' + y'
  · by_cases h2 : x' < x + y
    · rw [decide_eq_true (show MeetD (x, y, b) (x', y', b') from ⟨h1, h2⟩)]
      go_enter Try.func32, Try.ntmps32
      go_wp2
      go_ret
      exact ⟨rfl, HB.out _ _⟩
    · rw [decide_eq_false (show ¬ MeetD (x, y, b) (x', y', b') from fun h => h2 h.2)]
      go_enter Try.func32, Try.ntmps32
      go_wp2
      go_ret
      exact ⟨rfl, HB.out _ _⟩
  · rw [decide_eq_false (show ¬ MeetD (x, y, b) (x', y', b') from fun h => h1 h.1)]
    go_enter Try.func32, Try.ntmps32
    go_wp2
    go_ret
    exact ⟨rfl, HB.out _ _⟩
end Go.Proofs.Ytmfpoagimedhnaa
