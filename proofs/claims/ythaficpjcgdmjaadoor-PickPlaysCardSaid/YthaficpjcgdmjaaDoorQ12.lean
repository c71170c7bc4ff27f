/- A set of a law's own; what the laws' sentinel does; the walk of PickNone. Condition: the library's table reads as its initialiser lays it. -/
import Derived.Test.YthaficpjcgdmjaaDoorQ11
namespace Go.Proofs.YthaficpjcgdmjaaDoor
open Go.RowKit
set_option maxRecDepth 100000

theorem rput_ok (L : List Nat) (v : Value) (n : Int) (w : World) (h : IRow w v L) (hl : L.length ≤ 1500) : Calls Tryd.prog 12 #[v, .int .i64 n] w (RowPost w (putE L n) (putL L n)) := by
  have H := Lib.hid h
  obtain ⟨a, c, rfl, _⟩ := h.open_
  clear h
  rcases num_ways n with ⟨hn, hway⟩ | ⟨n, rfl, hn1, hn⟩
  · have E : Hid (putE L n = 2 ∧ putL L n = L) := Lib.hid (by simp [putE, putL, hn])
    rw [E.out.1, E.out.2]
    clear hn
    rcases hway with h1 | ⟨h1, h2⟩
    · have d1 : decide (n < 0) = true := decide_eq_true h1
      go_enter Tryd.func12, Tryd.ntmps12
      go_wp2
      go_ret2
      exact ⟨_, rfl, H.out, Below.refl _ _⟩
    · have d1 : decide (n < 0) = false := decide_eq_false (by omega)
      have d2 : decide (1023 < n) = true := decide_eq_true h2
      go_enter Tryd.func12, Tryd.ntmps12
      go_wp2
      go_ret2
      exact ⟨_, rfl, H.out, Below.refl _ _⟩
  · by_cases hm : n ∈ L
    · have E : Hid (putE L n = 5 ∧ putL L n = L) := Lib.hid (by simp [putE, putL, hn, hm])
      rw [E.out.1, E.out.2]
      have d1 : decide ((n : Int) < 0) = false := decide_eq_false (by omega)
      have d2 : decide (1023 < (n : Int)) = false := decide_eq_false (by omega)
      have hhas := rhas_ok L _ (n : Int) w H.out (by omega)
      have hin := in_num L n hn
      rw [Int.toNat_natCast, decide_eq_true hm] at hin
      rw [hin] at hhas
      have HAS := Lib.hid hhas
      clear hhas hin hn hm
      go_enter Tryd.func12, Tryd.ntmps12
      go_wp2_with (go_at_call 18; refine HAS.out.mono ?_; rintro e w' ⟨rfl, rfl⟩)
      go_ret2
      exact ⟨_, rfl, H.out, Below.refl _ _⟩
    · rw [show putE L n = 0 by simp [putE, hn, hm], show putL L n = ins L n by simp [putL, hn, hm]]
      exact rput_new L _ n w H.out hl hn1 hm

/-- A set of a law's own. -/
structure OwnSet (W w : World) (b : Nat) (L : List Nat) : Prop where
  st : SetAt w b L
  below : Below W.heap.size W w
  le : W.heap.size ≤ b
  laid : LaidQ W
theorem OwnSet.turn {W w w' : World} {b : Nat} {L K : List Nat} (h : OwnSet W w b L) (k : Turn w w' b K) : OwnSet W w' b K := ⟨k.st, Turn.below h.below k h.below.size h.le, h.le, h.laid⟩
theorem OwnSet.step {W w w' : World} {b : Nat} {L : List Nat} (h : OwnSet W w b L) (k : Below w.heap.size w w') : OwnSet W w' b L := ⟨h.st.below k, h.below.trans (k.mono h.below.size), h.le, h.laid⟩
theorem OwnSet.table {W w : World} {b : Nat} {L : List Nat} (h : OwnSet W w b L) : LaidQ w := h.laid.below h.below
theorem OwnSet.new {W w : World} {L : List Nat} {e : Ending} (hT : LaidQ W) (h : NewSet W L e w) : ∃ b, e = .returned (.tuple #[.pointer (some ⟨b, 0, none⟩), .int .i64 0]) ∧ OwnSet W w b L := by
  obtain ⟨b, he, h1, h2, h3⟩ := h
  exact ⟨b, he, h1, h3, h2, hT⟩
theorem put_is {b : Nat} {L K : List Nat} {n k : Int} (h1 : putE L n = k) (h2 : putL L n = K) {w : World} (h : SetAt w b L) : Calls Tryd.prog 13 #[.pointer (some ⟨b, 0, none⟩), .int .i64 n] w fun e w' => e = .returned (.int .i64 k) ∧ Turn w w' b K := by
  subst h1 h2; exact put_any b L n w h
theorem drop_is {b : Nat} {L K : List Nat} {n k : Int} (h1 : dropE L n = k) (h2 : dropL L n = K) {w : World} (h : SetAt w b L) : Calls Tryd.prog 15 #[.pointer (some ⟨b, 0, none⟩), .int .i64 n] w fun e w' => e = .returned (.int .i64 k) ∧ Turn w w' b K := by
  subst h1 h2; exact drop_any b L n w h
theorem has_is {b : Nat} {L : List Nat} {n : Int} {x : Bool} (h1 : hasB' L n = x) {w : World} (h : SetAt w b L) : Calls Tryd.prog 17 #[.pointer (some ⟨b, 0, none⟩), .int .i64 n] w fun e w' => e = .returned (.bool x) ∧ Below w.heap.size w w' := by
  subst h1; exact has_set b L n w h
theorem len_is {b : Nat} {L : List Nat} {m : Nat} (h1 : L.length = m) {w : World} (h : SetAt w b L) : Calls Tryd.prog 16 #[.pointer (some ⟨b, 0, none⟩)] w fun e w' => e = .returned (.int .i64 (m : Int)) ∧ w = w' := by
  subst h1; exact len_set b L w h
theorem take_is {b : Nat} {L K : List Nat} {n k : Int} (h1 : takeA L = (n, k, K)) {w : World} (h : SetAt w b L) (hT : LaidQ w) : Calls Tryd.prog 11 #[.pointer (some ⟨b, 0, none⟩)] w fun e w' => e = .returned (.tuple #[.int .i64 n, .int .i64 k]) ∧ Turn w w' b K := by
  have := take_ok b L w h hT
  rwa [h1] at this

set_option maxHeartbeats 1000000 in
theorem awake8 (w : World) (hT : LaidQ w) : Calls Tryd.prog 8 #[] w fun e w' => e = .returned (.bool true) ∧ Below w.heap.size w w' := by
  have C : Hid (Calls Tryd.prog 9 #[.int .i64 3, .int .i64 2] w (NewSet w [3, 4])) := Lib.hid (new_set 3 2 w (by decide) (by decide))
  have HT := Lib.hid hT
  clear hT
  go_enter Tryd.func8, Tryd.ntmps8
  go_wp2_with fail
  refine C.out.mono ?_
  rintro e w1 hp
  obtain ⟨b, rfl, ho⟩ := OwnSet.new HT.out hp
  have O1 := Lib.hid ho
  clear hp ho
  go_wp2_with fail
  refine (take_is (show takeA [3, 4] = (3, 0, [4]) by rfl) O1.out.st O1.out.table).mono ?_
  rintro e w2 ⟨rfl, ht⟩
  have O2 := Lib.hid (O1.out.turn ht)
  clear ht
  go_wp2_with fail
  refine (put_is (show putE [4] 4 = 5 by decide) (show putL [4] 4 = [4] by decide) O2.out.st).mono ?_
  rintro e w3 ⟨rfl, ht⟩
  have O3 := Lib.hid (O2.out.turn ht)
  clear ht
  go_wp2_with fail
  refine (put_is (show putE [4] 0 = 0 by decide) (show putL [4] 0 = [0, 4] by decide) O3.out.st).mono ?_
  rintro e w4 ⟨rfl, ht⟩
  have O4 := Lib.hid (O3.out.turn ht)
  clear ht
  go_wp2_with fail
  refine (len_is (show [0, 4].length = 2 from rfl) O4.out.st).mono ?_
  rintro e w5 ⟨rfl, rfl⟩
  go_wp2_with fail
  refine (has_is (show hasB' [0, 4] 0 = true by decide) O4.out.st).mono ?_
  rintro e w6 ⟨rfl, hb⟩
  have O5 := Lib.hid (O4.out.step hb)
  clear hb
  go_wp2
  go_ret
  exact ⟨rfl, O5.out.below⟩

theorem setInfo : (Tryd.prog.info? 46).map (fun i => (i.zero, i.size)) = some (some (.agg (setV [] false)), 17) := by kernel_rfl
theorem setZero (w : World) : (zeroValue 46).run Tryd.prog w = .ok (.agg (setV [] false)) w := (zero_of_info setInfo).1 w
def NoneRel (W : World) (s i : Value) (wr : World) : Prop := (s = .pointer none ∧ (i = .int .i64 0 ∨ i = .int .i64 1) ∨ (s = .pointer (some ⟨W.heap.size, 0, none⟩) ∧ i = .int .i64 2)) ∧ wr = W.alloc (.cells (setV [] false) 46)
set_option maxHeartbeats 4000000 in
theorem pickNone_walk (n : Int) (W : World) (_hn : -9223372036854775808 ≤ n ∧ n ≤ 9223372036854775807) (hT : LaidQ W) : Calls Tryd.prog 4 #[.int .i64 n] W fun e w' => e = .returned (.bool true) ∧ Below W.heap.size W w' := by
  have hz := setZero
  have HT := Lib.hid hT
  obtain ⟨w1, hw1⟩ : ∃ w1, w1 = W.alloc (.cells (setV [] false) 46) := ⟨_, rfl⟩
  have B1 : Hid (Below W.heap.size W w1) := Lib.hid (by rw [hw1]; exact (Below.refl _ _).alloc (Nat.le_refl _) _)
  have N0 : Hid (NoSet w1 none) := Lib.hid (Or.inl rfl)
  have N1 : Hid (NoSet w1 (some ⟨W.heap.size, 0, none⟩)) := Lib.hid (Or.inr ⟨_, rfl, by rw [hw1]; exact heap_alloc_new W _⟩)
  have HW := Lib.hid hw1
  clear hT hw1
  go_enter Tryd.func4, Tryd.ntmps4
  go_wp2_with fail
  go_loopw [3, 5] (fun s i wr => NoneRel W s i wr) (fun _ i _ => (2 - (intOf i).toNat))
  case atStart => exact ⟨Or.inl ⟨rfl, Or.inl rfl⟩, rfl⟩
  case round =>
    obtain ⟨hs, rfl⟩ := hrel
    rw [← HW.out]
    rcases hs with ⟨rfl, rfl | rfl⟩ | ⟨rfl, rfl⟩
    · go_wp2_with (first
        | (go_at_call 11; refine (take_no _ _ N0.out).mono ?_; rintro e w2 ⟨rfl, rfl⟩)
        | (go_at_call 13; refine (put_no _ n _ N0.out).mono ?_; rintro e w2 ⟨rfl, rfl⟩)
        | (go_at_call 15; refine (drop_no _ n _ N0.out).mono ?_; rintro e w2 ⟨rfl, rfl⟩)
        | (go_at_call 17; refine (has_no _ n _ N0.out).mono ?_; rintro e w2 ⟨rfl, rfl⟩)
        | (go_at_call 16; refine (len_no _ _ N0.out).mono ?_; rintro e w2 ⟨rfl, rfl⟩)
        | (go_at_call 20; refine (all_no _ _ N0.out).mono ?_; rintro e w2 ⟨rfl, rfl⟩))
      go_roundw
      case rel => exact ⟨Or.inl ⟨rfl, Or.inr rfl⟩, HW.out⟩
      case measure => simp [intOf]
    · go_wp2_with (first
        | (go_at_call 11; refine (take_no _ _ N1.out).mono ?_; rintro e w2 ⟨rfl, rfl⟩)
        | (go_at_call 13; refine (put_no _ n _ N1.out).mono ?_; rintro e w2 ⟨rfl, rfl⟩)
        | (go_at_call 15; refine (drop_no _ n _ N1.out).mono ?_; rintro e w2 ⟨rfl, rfl⟩)
        | (go_at_call 17; refine (has_no _ n _ N1.out).mono ?_; rintro e w2 ⟨rfl, rfl⟩)
        | (go_at_call 16; refine (len_no _ _ N1.out).mono ?_; rintro e w2 ⟨rfl, rfl⟩)
        | (go_at_call 20; refine (all_no _ _ N1.out).mono ?_; rintro e w2 ⟨rfl, rfl⟩))
      go_roundw
      case rel => exact ⟨Or.inr ⟨rfl, rfl⟩, HW.out⟩
      case measure => simp [intOf]
    · go_wp2_with (go_at_call 8; refine (awake8 _ (HT.out.below B1.out)).mono ?_; rintro e w2 ⟨rfl, hb⟩; have B2 := Lib.hid (B1.out.trans (hb.mono B1.out.size)); clear hb)
      go_ret
      exact ⟨rfl, B2.out⟩
end Go.Proofs.YthaficpjcgdmjaaDoor
