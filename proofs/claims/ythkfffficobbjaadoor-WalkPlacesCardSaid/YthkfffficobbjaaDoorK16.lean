/- The walk of the law WalkPlaces. Conditions: the tables of package word read as laid; the words to lay can be read. -/
import Derived.Test.YthkfffficobbjaaDoorK15
namespace Go.Proofs.YthkfffficobbjaaDoor
open Go.RowKit
set_option maxRecDepth 100000

/-- All places of a page lie in one frame, in order, or have one fault. -/
theorem at_place (n : Nat) (L : List Int) (root pg i : Int) (wr : Bool) (h1 : pg < 1024) (hi0 : 0 ≤ i) (hi : i < 32) {a b f : Int} (h : atE n L root (pg * 32) wr = (a, b, f)) : b = 0 ∧ atE n L root (pg * 32 + i) wr = (a, (if f = 0 then i else 0), f) := by
  unfold atE at h ⊢
  rw [if_neg (by omega), show pg * 32 / 32 = pg by omega] at h
  rw [if_neg (by omega), show (pg * 32 + i) / 32 = pg by omega]
  by_cases h2 : (pageE n L root pg).2 ≠ 0
  · rw [if_pos h2] at h ⊢
    cases h
    exact ⟨rfl, by rw [if_neg h2]⟩
  rw [if_neg h2] at h ⊢
  by_cases h3 : wr = true ∧ (pageE n L root pg).1.2.2.1 = true
  · rw [if_pos h3] at h ⊢
    cases h
    exact ⟨rfl, rfl⟩
  rw [if_neg h3] at h ⊢
  by_cases h4 : wr = true ∧ (pageE n L root pg).1.2.1 = false
  · rw [if_pos h4] at h ⊢
    cases h
    exact ⟨rfl, rfl⟩
  rw [if_neg h4] at h ⊢
  cases h
  refine ⟨by omega, ?_⟩
  rw [if_pos rfl, show (pg * 32 + i) % 32 = i by omega]
set_option maxHeartbeats 1000000 in
theorem walkPlaces_no (n : Int) (m : Nat) (a : Option Addr) (c : Nat) (root pg : Int) (wr : Bool) (W : World) (h : LawOut W n m a c) :
    Calls Tryd.prog 8 #[.int .i64 n, .slice a m c, .int .i64 root, .int .i64 pg, .bool wr] W fun e w' => e = .returned (.bool true) ∧ Below W.heap.size W w' := by
  have H := Lib.hid h
  clear h
  go_enter Tryd.func8, Tryd.ntmps8
  go_wp2_with fail
  refine H.out.fine.mono ?_
  rintro e w1 ⟨rfl, rfl⟩
  go_wp2_with fail
  refine (awake3_any W H.out.laid).mono ?_
  rintro e w1 ⟨rfl, hb⟩
  have B := Lib.hid hb
  clear hb
  go_wp2
  go_ret
  exact ⟨rfl, B.out⟩
set_option maxHeartbeats 4000000 in
theorem walkPlaces_arg (n m : Nat) (a : Option Addr) (c : Nat) (L : List Int) (root pg : Int) (wr : Bool) (W : World) (h : LawIn W n m a c L) (hp : pg < 0 ∨ 1024 ≤ pg) :
    Calls Tryd.prog 8 #[.int .i64 n, .slice a m c, .int .i64 root, .int .i64 pg, .bool wr] W fun e w' => e = .returned (.bool true) ∧ Below W.heap.size W w' := by
  have H := Lib.hid h
  clear h
  have hd : decide (pg < 0) = true ∨ (decide (pg < 0) = false ∧ decide ((1024 : Int) ≤ pg) = true) := by
    by_cases h1 : pg < 0
    · exact Or.inl (decide_eq_true h1)
    · exact Or.inr ⟨decide_eq_false h1, decide_eq_true (by omega)⟩
  clear hp
  rcases hd with hd | ⟨hd, hd2⟩
  all_goals
    go_enter Tryd.func8, Tryd.ntmps8
    go_wp2_with fail
    refine H.out.fine.mono ?_
    rintro e w1 ⟨rfl, rfl⟩
    go_wp2_with fail
    refine (awake3_any W H.out.laid).mono ?_
    rintro e w1 ⟨rfl, hb⟩
    have B := Lib.hid hb
    clear hb
    go_wp2
    go_ret
    exact ⟨rfl, B.out⟩
set_option maxHeartbeats 4000000 in
theorem walkPlaces_in (n m : Nat) (a : Option Addr) (c : Nat) (L : List Int) (root pg : Int) (wr : Bool) (W : World) (h : LawIn W n m a c L) (hp0 : 0 ≤ pg) (hp1 : pg < 1024) (a1 f : Int) (h1 : atE n L root (pg * 32) wr = (a1, 0, f))
    (hl : ∀ i : Nat, i < 32 → ∃ q : Int, atE n L root (pg * 32 + i) wr = (a1, q, f) ∧ ((f = 0 ∧ q = i) ∨ (f ≠ 0 ∧ q = 0))) (hc : f = 0 ∨ ((f == 0) = false ∧ (f != 0) = true)) :
    Calls Tryd.prog 8 #[.int .i64 n, .slice a m c, .int .i64 root, .int .i64 pg, .bool wr] W fun e w' => e = .returned (.bool true) ∧ Below W.heap.size W w' := by
  have H := Lib.hid h
  clear h
  have hd1 : decide (pg < 0) = false := decide_eq_false (by omega)
  have hd2 : decide ((1024 : Int) ≤ pg) = false := decide_eq_false (by omega)
  have H1 := Lib.hid h1
  have HL := Lib.hid hl
  clear h1 hl
  rcases hc with rfl | ⟨hf, hf2⟩
  all_goals
    go_enter Tryd.func8, Tryd.ntmps8
    go_wp2_with fail
    refine H.out.fine.mono ?_
    rintro e w1 ⟨rfl, rfl⟩
    go_wp2_with fail
    refine H.out.built.mono ?_
    rintro e w2 ⟨mp, fb, rp, rb, rfl, hD⟩
    obtain ⟨w3, hw3⟩ : ∃ w3, w3 = w2.alloc (.cells #[.slice (some ⟨rb, 0, none⟩) (n * 32) (n * 32)] 30) := ⟨_, rfl⟩
    have D3 := Lib.hid (show Duo W mp fb w2.heap.size rb n L L w3 by rw [hw3]; exact hD.rebox)
    clear hD
    go_wp2_with fail
    rw [← hw3]
    clear hw3
    refine (at_eq H1.out mp fb w3 (H.out.laid.below D3.out.below) H.out.words D3.out.m (by omega)).mono ?_
    rintro e w4 ⟨rfl, hb⟩
    have D4 := Lib.hid (D3.out.step hb)
    clear hb
    go_wp2_with fail
    generalize w2.heap.size = rq at *
    go_loopw [17] (fun i wr => TabRel W mp fb rq rb n L i wr) (fun i _ => (32 - (intOf i).toNat))
    case atStart => exact ⟨0, rfl, Nat.zero_le _, D4.out⟩
    case round =>
      obtain ⟨k, rfl, hk, hd⟩ := hrel
      have E1 := Lib.hid hd
      clear hd
      by_cases hlt : k < 32
      · obtain ⟨q, h3, h4⟩ := HL.out k hlt
        have H3 := Lib.hid h3
        clear h3
        have h5 : (0 : Int) ≤ pg * 32 + k := by omega
        have H5 := Lib.hid h5
        clear h5
        first
          | (obtain ⟨_, rfl⟩ := h4.resolve_right (fun e => e.1 rfl))
          | (obtain ⟨_, rfl⟩ := h4.resolve_left (fun e => by rw [e.1] at hf; exact absurd hf (by decide)))
        clear h4
        go_wp2_with fail
        refine (at_eq H3.out mp fb _ (H.out.laid.below E1.out.below) H.out.words E1.out.m H5.out).mono ?_
        rintro e wa ⟨rfl, hb⟩
        have E2 := Lib.hid (E1.out.step hb)
        clear hb
        go_wp2
        go_roundw
        case rel => exact ⟨k + 1, by go_num, by omega, E2.out⟩
        case measure => simp [intOf]; omega
      · obtain rfl : k = 32 := by omega
        clear hlt
        go_wp2_with fail
        refine (awake3_any _ (H.out.laid.below E1.out.below)).mono ?_
        rintro e wa ⟨rfl, hb⟩
        have E2 := Lib.hid (E1.out.step hb)
        clear hb
        go_wp2
        go_ret
        exact ⟨rfl, E2.out.below⟩
theorem walkPlaces_all (n m : Nat) (a : Option Addr) (c : Nat) (L : List Int) (root pg : Int) (wr : Bool) (W : World) (h : LawIn W n m a c L) :
    Calls Tryd.prog 8 #[.int .i64 n, .slice a m c, .int .i64 root, .int .i64 pg, .bool wr] W fun e w' => e = .returned (.bool true) ∧ Below W.heap.size W w' := by
  by_cases hp : pg < 0 ∨ 1024 ≤ pg
  · exact walkPlaces_arg n m a c L root pg wr W h hp
  have hp0 : 0 ≤ pg := by omega
  have hp1 : pg < 1024 := by omega
  obtain ⟨⟨a1, b1, f⟩, h1⟩ : ∃ r, atE n L root (pg * 32) wr = r := ⟨_, rfl⟩
  obtain ⟨rfl, _⟩ := at_place n L root pg 0 wr hp1 (by omega) (by omega) h1
  refine walkPlaces_in n m a c L root pg wr W h hp0 hp1 a1 f h1 (fun i hi => ?_) ?_
  · have := (at_place n L root pg i wr hp1 (by omega) (by omega) h1).2
    by_cases hf : f = 0
    · rw [if_pos hf] at this
      exact ⟨_, this, Or.inl ⟨hf, rfl⟩⟩
    · rw [if_neg hf] at this
      exact ⟨_, this, Or.inr ⟨hf, rfl⟩⟩
  · by_cases hf : f = 0
    · exact Or.inl hf
    · exact Or.inr ⟨by simpa using hf, by simpa using hf⟩
theorem walkPlaces_walk (n : Int) (sv : Value) (S : List CellD) (root pg : Int) (wr : Bool) (W : World) (_hn : -9223372036854775808 ≤ n ∧ n ≤ 9223372036854775807) (hS : CellsAt W sv S) (_hroot : -9223372036854775808 ≤ root ∧ root ≤ 9223372036854775807) (_hpg : -9223372036854775808 ≤ pg ∧ pg ≤ 9223372036854775807) (hL : LaidW W) :
    Calls Tryd.prog 8 #[.int .i64 n, sv, .int .i64 root, .int .i64 pg, .bool wr] W fun e w' => e = .returned (.bool true) ∧ Below W.heap.size W w' := by
  rcases lawAny (n := n) hS hL with ⟨m, a, c, rfl, h⟩ | ⟨k, m, a, c, L, rfl, rfl, h⟩
  · exact walkPlaces_no n m a c root pg wr W h
  · exact walkPlaces_all k m a c L root pg wr W h
end Go.Proofs.YthkfffficobbjaaDoor
