/- The contracts of package region's find, among, Check. Condition: the slices lie in memory. -/
import Derived.Test.YtmfpoagimedhnaaD3
namespace Go.Proofs.Ytmfpoagimedhnaa
open Go.RowKit Go.Maps
set_option maxRecDepth 100000

/-- What is answered of a page. -/
abbrev saysD (o : Option Bool) : Ending := .returned (.tuple #[.bool (o == some true), .bool o.isSome])
theorem at_hit {L : List Ar} (up : UpD L) {j : Nat} (hj : j < L.length) {p : Int} (h : HasD (L.getD j default) p) : atD L p = some (L.getD j default).2.2 := atD_some up (getD_inD hj) h
theorem at_miss {L : List Ar} {p : Int} (h : ∀ i, i < L.length → ¬ HasD (L.getD i default) p) : atD L p = none := atD_none fun x hx => by
  obtain ⟨i, hi, rfl⟩ := List.getElem_of_mem hx
  have := h i hi
  rwa [List.getD_eq_getElem?_getD, List.getElem?_eq_getElem hi] at this
theorem fit_at {L : List Ar} (up : UpD L) {j : Nat} (hj : j < L.length) : FitD (L.getD j default).1 (L.getD j default).2.1 := up.fit _ (getD_inD hj)
set_option maxHeartbeats 1000000 in
theorem find_okD (L : List Ar) (up : UpD L) (v : Value) (p : Int) (w : World) (h : ArAt w v L) : Calls Try.prog 27 #[v, .int .i64 p] w fun e w' => e = saysD (atD L p) ∧ Below w.heap.size w w' := by
  have hl := h.len
  obtain ⟨a, c, rfl⟩ := h.form
  obtain ⟨n, hn⟩ : ∃ n, n = L.length := ⟨_, rfl⟩
  rw [← hn] at hl h ⊢
  obtain ⟨r, hr⟩ : ∃ r, r = atD L p := ⟨_, rfl⟩
  rw [← hr]
  have HR := Lib.hid hr
  have H := Lib.hid h
  have HN := Lib.hid hn
  have UP := Lib.hid up
  clear hn h up hr
  go_enter Try.func27, Try.ntmps27
  go_wp2_with fail
  go_loopw [10] (fun i wr => ∃ j : Nat, i = .int .i64 (j : Int) ∧ j ≤ n ∧ Below w.heap.size w wr ∧ ∀ i, i < j → ¬ HasD (L.getD i default) p) (fun i _ => (n - (intOf i).toNat))
  case atStart => exact ⟨0, rfl, Nat.zero_le _, Below.refl _ _, fun i hi => absurd hi (Nat.not_lt_zero _)⟩
  case round =>
    obtain ⟨j, rfl, hj, hB, hlow⟩ := hrel
    have B := Lib.hid hB
    have LOW := Lib.hid hlow
    clear hB hlow
    by_cases hlt : j < n
    · have hjl : j < L.length := by rw [← HN.out]; exact hlt
      obtain ⟨⟨x, y, b⟩, hy⟩ : ∃ y, L.getD j default = y := ⟨_, rfl⟩
      obtain ⟨g, o, rfl, hbl, -, c0, c1, c2⟩ := (H.out.below B.out).at_ (by rw [← HN.out]; exact hlt) hy
      simp only at c0 c1 c2
      have hf := fit_at UP.out hjl
      have hhit := at_hit (p := p) UP.out hjl
      rw [hy] at hf hhit
      have HF := Lib.hid hf
      have HIT := Lib.hid hhit
      have HY := Lib.hid hy
      clear hf hhit hy
      go_wp2_with fail
      refine (has_okD x y b p HF.out _).mono ?_
      rintro e w1 ⟨rfl, hb1⟩
      have R1 := Lib.hid (below_block hb1 (heap_alloc_new wr (.cells #[.int .i64 x, .int .i64 y, .bool b] 32)))
      have B1 := Lib.hid ((B.out.alloc B.out.size (.cells #[.int .i64 x, .int .i64 y, .bool b] 32)).trans (hb1.mono (by have := B.out.size; simp; omega)))
      clear hb1
      obtain ⟨d0, d1, d2⟩ := cells3 R1.out
      by_cases hh : HasD (x, y, b) p
      · obtain rfl : r = some b := HR.out.trans (HIT.out hh)
        have hd : decide (HasD (x, y, b) p) = true := decide_eq_true hh
        rw [hd]
        clear hd hh
        go_wp2_with fail
        go_ret2
        exact ⟨by cases b <;> rfl, B1.out⟩
      · have LOW2 : Hid (∀ i, i < j + 1 → ¬ HasD (L.getD i default) p) := Lib.hid fun i hi => by
          by_cases e : i = j
          · rw [e, HY.out]; exact hh
          · exact LOW.out i (by omega)
        have hd : decide (HasD (x, y, b) p) = false := decide_eq_false hh
        rw [hd]
        clear hd hh
        go_wp2_with fail
        go_roundw
        case rel => exact ⟨j + 1, by go_num, by omega, B1.out, LOW2.out⟩
        case measure => simp [intOf]; omega
    · obtain rfl : j = n := by omega
      obtain rfl : r = none := HR.out.trans (at_miss (by rw [← HN.out]; exact LOW.out))
      clear hlt
      go_wp2
      go_ret2
      exact ⟨rfl, B.out⟩
set_option maxHeartbeats 1000000 in
theorem among_ok (L : List Ar) (up : UpD L) (v : Value) (f m : Int) (hf : FitD f m) (w : World) (h : ArAt w v L) : Calls Try.prog 30 #[v, .int .i64 f, .int .i64 m] w fun e w' => e = .returned (.int .i64 (cntD (fun p => (atD L p).isSome) f m.toNat)) ∧ Below w.heap.size w w' := by
  obtain ⟨f1, f2, f3⟩ := hf
  obtain ⟨n, rfl⟩ : ∃ n : Nat, m = (n : Int) := ⟨m.toNat, by omega⟩
  obtain ⟨P, hP⟩ : ∃ P, P = fun p => (atD L p).isSome := ⟨_, rfl⟩
  rw [← hP, Int.toNat_natCast]
  have FOK : Hid (∀ V p, Below w.heap.size w V → Calls Try.prog 27 #[v, .int .i64 p] V fun e w' => e = .returned (.tuple #[.bool (atD L p == some true), .bool (P p)]) ∧ Below V.heap.size V w') := Lib.hid fun V p hb => by rw [hP]; exact find_okD L up v p V (h.below hb)
  clear hP h up
  go_enter Try.func30, Try.ntmps30
  go_wp2_with fail
  go_loopw [7, 12] (fun s i wr => ∃ j : Nat, i = .int .i64 (j : Int) ∧ j ≤ n ∧ Below w.heap.size w wr ∧ s = .int .i64 (cntD P f j)) (fun _ i _ => (n - (intOf i).toNat))
  case atStart => exact ⟨0, rfl, Nat.zero_le _, Below.refl _ _, rfl⟩
  case round =>
    obtain ⟨j, rfl, hj, hB, rfl⟩ := hrel
    have B := Lib.hid hB
    clear hB
    by_cases hlt : j < n
    · obtain ⟨b1, b2⟩ := cntD_le P f j
      have hc : cntD P f (j + 1) = cntD P f j + if P (f + j) then 1 else 0 := rfl
      obtain ⟨q, hq⟩ : ∃ q, q = cntD P f j := ⟨_, rfl⟩
      rw [← hq] at b1 b2 hc ⊢
      have HQ := Lib.hid hq
      clear hq
      cases hp : P (f + j) with
      | true =>
        rw [hp, if_pos rfl] at hc
        have HC := Lib.hid hc
        have HP := Lib.hid hp
        clear hc hp
        go_wp2_with (go_at_call 27; refine (FOK.out _ _ B.out).mono ?_; rintro e w1 ⟨rfl, hb1⟩; rw [HP.out]; have B1 := Lib.hid (B.out.trans (hb1.mono B.out.size)); clear hb1)
        go_roundw
        case rel => exact ⟨j + 1, by go_num, by omega, B1.out, by rw [HC.out]⟩
        case measure => simp [intOf]; omega
      | false =>
        rw [hp, if_neg (by simp), Int.add_zero] at hc
        have HC := Lib.hid hc
        have HP := Lib.hid hp
        clear hc hp
        go_wp2_with (go_at_call 27; refine (FOK.out _ _ B.out).mono ?_; rintro e w1 ⟨rfl, hb1⟩; rw [HP.out]; have B1 := Lib.hid (B.out.trans (hb1.mono B.out.size)); clear hb1)
        go_roundw
        case rel => exact ⟨j + 1, by go_num, by omega, B1.out, by rw [HC.out]⟩
        case measure => simp [intOf]; omega
    · obtain rfl : j = n := by omega
      clear hlt
      go_wp2
      go_ret
      exact ⟨rfl, B.out⟩
end Go.Proofs.Ytmfpoagimedhnaa
