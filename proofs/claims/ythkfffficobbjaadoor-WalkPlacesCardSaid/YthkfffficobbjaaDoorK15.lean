/- The walk of the law WalkTables. Conditions: the tables of package word read as laid; the words to lay can be read. -/
import Derived.Test.YthkfffficobbjaaDoorKE
namespace Go.Proofs.YthkfffficobbjaaDoor
open Go.RowKit
set_option maxRecDepth 100000

/-- Whether a table is missing hangs on the root's word alone. -/
theorem table_iff (n : Nat) (L : List Int) (root pg : Int) : (pageE n L root pg).2 = 2 ↔ ∃ t, entAt n L root (pg / 32) = some t ∧ t.1 = false := by
  constructor
  · intro h
    rcases pageE_cases n L root pg with ⟨_, r⟩ | ⟨t, k1, k2, r⟩ | ⟨_, _, _, _, r⟩ | ⟨_, _, _, _, _, _, r⟩ | ⟨_, _, _, _, _, _, r⟩
    · rw [r] at h; simp at h
    · exact ⟨t, k1, k2⟩
    · rw [r] at h; simp at h
    · rw [r] at h; simp at h
    · rw [r] at h; simp at h
  · rintro ⟨t, k1, k2⟩
    rcases pageE_cases n L root pg with ⟨e, _⟩ | ⟨_, _, _, r⟩ | ⟨_, e, k, _, _⟩ | ⟨_, _, e, k, _, _, _⟩ | ⟨_, _, e, k, _, _, _⟩
    · rw [k1] at e; cases e
    · rw [r]
    · rw [k1] at e; cases e; rw [k2] at k; cases k
    · rw [k1] at e; cases e; rw [k2] at k; cases k
    · rw [k1] at e; cases e; rw [k2] at k; cases k
/-- The fault to read the first place of a page is the page's. -/
theorem at_page (n : Nat) (L : List Int) (root pg : Int) (h1 : pg < 1024) : (atE n L root (pg * 32) false).2.2 = (pageE n L root pg).2 := by
  unfold atE
  rw [if_neg (by omega), show pg * 32 / 32 = pg by omega]
  by_cases h : (pageE n L root pg).2 ≠ 0
  · rw [if_pos h]
  · rw [if_neg h, if_neg (by simp), if_neg (by simp)]
    simpa using Eq.symm (by simpa using h)
def TabRel (W : World) (mp fb rp rb n : Nat) (L : List Int) (i : Value) (wr : World) : Prop := ∃ k : Nat, i = .int .i64 k ∧ k ≤ 32 ∧ Duo W mp fb rp rb n L L wr
set_option maxHeartbeats 1000000 in
theorem walkTables_no (n : Int) (m : Nat) (a : Option Addr) (c : Nat) (root pg : Int) (W : World) (h : LawOut W n m a c) :
    Calls Tryd.prog 7 #[.int .i64 n, .slice a m c, .int .i64 root, .int .i64 pg] W fun e w' => e = .returned (.bool true) ∧ Below W.heap.size W w' := by
  have H := Lib.hid h
  clear h
  go_enter Tryd.func7, Tryd.ntmps7
  go_wp2_with fail
  refine H.out.fine.mono ?_
  rintro e w1 ⟨rfl, rfl⟩
  go_wp2_with fail
  refine (awake3_any W H.out.laid).mono ?_
  rintro e w1 ⟨rfl, hb⟩
  have B := Lib.hid hb
  clear hb
  go_wp2
  go_ret
  exact ⟨rfl, B.out⟩
set_option maxHeartbeats 4000000 in
theorem walkTables_arg (n m : Nat) (a : Option Addr) (c : Nat) (L : List Int) (root pg : Int) (W : World) (h : LawIn W n m a c L) (hp : pg < 0 ∨ 1024 ≤ pg) :
    Calls Tryd.prog 7 #[.int .i64 n, .slice a m c, .int .i64 root, .int .i64 pg] W fun e w' => e = .returned (.bool true) ∧ Below W.heap.size W w' := by
  have H := Lib.hid h
  clear h
  have hd : decide (pg < 0) = true ∨ (decide (pg < 0) = false ∧ decide ((1024 : Int) ≤ pg) = true) := by
    by_cases h1 : pg < 0
    · exact Or.inl (decide_eq_true h1)
    · exact Or.inr ⟨decide_eq_false h1, decide_eq_true (by omega)⟩
  clear hp
  rcases hd with hd | ⟨hd, hd2⟩
  all_goals
    go_enter Tryd.func7, Tryd.ntmps7
    go_wp2_with fail
    refine H.out.fine.mono ?_
    rintro e w1 ⟨rfl, rfl⟩
    go_wp2_with fail
    refine (awake3_any W H.out.laid).mono ?_
    rintro e w1 ⟨rfl, hb⟩
    have B := Lib.hid hb
    clear hb
    go_wp2
    go_ret
    exact ⟨rfl, B.out⟩
set_option maxHeartbeats 4000000 in
theorem walkTables_in (n m : Nat) (a : Option Addr) (c : Nat) (L : List Int) (root pg : Int) (W : World) (h : LawIn W n m a c L) (hp0 : 0 ≤ pg) (hp1 : pg < 1024) (F a1 b1 f k : Int) (p x c' : Bool) (g : Int) (hF : pg - pg % 32 = F) (hF0 : 0 ≤ F) (hF1 : F ≤ 992) (h1 : atE n L root (pg * 32) false = (a1, b1, f)) (h2 : lookE n L root pg = ((p, x, c', g), k))
    (hl : ∀ i : Nat, i < 32 → ∃ a2 b2 f2, atE n L root ((F + i) * 32) false = (a2, b2, f2) ∧ ((f = 2 ∧ f2 = 2) ∨ (f ≠ 2 ∧ (f2 == 2) = false)))
    (hc : (f = 0 ∧ k = 0 ∧ p = true) ∨ (f = 2 ∧ k = 4) ∨ (f = 3 ∧ k = 0 ∧ p = false) ∨ (f = 6 ∧ k = 6)) :
    Calls Tryd.prog 7 #[.int .i64 n, .slice a m c, .int .i64 root, .int .i64 pg] W fun e w' => e = .returned (.bool true) ∧ Below W.heap.size W w' := by
  have H := Lib.hid h
  clear h
  have hd1 : decide (pg < 0) = false := decide_eq_false (by omega)
  have hd2 : decide ((1024 : Int) ≤ pg) = false := decide_eq_false (by omega)
  have H1 := Lib.hid h1
  have H2 := Lib.hid h2
  have HL := Lib.hid hl
  clear h1 h2 hl
  rcases hc with ⟨rfl, rfl, rfl⟩ | ⟨rfl, rfl⟩ | ⟨rfl, rfl, rfl⟩ | ⟨rfl, rfl⟩
  all_goals
    go_enter Tryd.func7, Tryd.ntmps7
    go_wp2_with fail
    refine H.out.fine.mono ?_
    rintro e w1 ⟨rfl, rfl⟩
    go_wp2_with fail
    refine H.out.built.mono ?_
    rintro e w2 ⟨mp, fb, rp, rb, rfl, hD⟩
    obtain ⟨w3, hw3⟩ : ∃ w3, w3 = w2.alloc (.cells #[.slice (some ⟨rb, 0, none⟩) (n * 32) (n * 32)] 30) := ⟨_, rfl⟩
    have D3 := Lib.hid (show Duo W mp fb w2.heap.size rb n L L w3 by rw [hw3]; exact hD.rebox)
    clear hD
    go_wp2_with fail
    rw [← hw3]
    clear hw3
    refine (at_eq H1.out mp fb w3 (H.out.laid.below D3.out.below) H.out.words D3.out.m (by omega)).mono ?_
    rintro e w4 ⟨rfl, hb⟩
    have D4 := Lib.hid (D3.out.step hb)
    clear hb
    go_wp2_with fail
    refine (look_eq H2.out mp fb w4 (H.out.laid.below D4.out.below) H.out.words D4.out.m).mono ?_
    rintro e w5 ⟨rfl, hb⟩
    have D5 := Lib.hid (D4.out.step hb)
    clear hb
    go_wp2_with fail
    have D6 := Lib.hid (fun o : Obj => D5.out.step ((Below.refl _ _).alloc (Nat.le_refl _) o))
    generalize w2.heap.size = rq at *
    go_loopw [18] (fun i wr => TabRel W mp fb rq rb n L i wr) (fun i _ => (32 - (intOf i).toNat))
    case atStart => exact ⟨0, rfl, Nat.zero_le _, D6.out _⟩
    case round =>
      obtain ⟨k, rfl, hk, hd⟩ := hrel
      have E1 := Lib.hid hd
      clear hd
      by_cases hlt : k < 32
      · obtain ⟨a2, b2, f2, h3, h4⟩ := HL.out k hlt
        have H3 := Lib.hid h3
        clear h3
        have h5 : (0 : Int) ≤ (F + k) * 32 := by omega
        have H5 := Lib.hid h5
        clear h5
        first
          | (obtain ⟨_, rfl⟩ := h4.resolve_right (fun e => e.1 rfl))
          | (obtain ⟨_, h4⟩ := h4.resolve_left (fun e => absurd e.1 (by decide)))
        go_wp2_with fail
        refine (at_eq H3.out mp fb wr (H.out.laid.below E1.out.below) H.out.words E1.out.m H5.out).mono ?_
        rintro e wa ⟨rfl, hb⟩
        have E2 := Lib.hid (E1.out.step hb)
        clear hb
        go_wp2
        go_roundw
        case rel => exact ⟨k + 1, by go_num, by omega, E2.out⟩
        case measure => simp [intOf]; omega
      · obtain rfl : k = 32 := by omega
        clear hlt
        go_wp2_with fail
        refine (awake3_any wr (H.out.laid.below E1.out.below)).mono ?_
        rintro e wa ⟨rfl, hb⟩
        have E2 := Lib.hid (E1.out.step hb)
        clear hb
        go_wp2
        go_ret
        exact ⟨rfl, E2.out.below⟩
theorem walkTables_all (n m : Nat) (a : Option Addr) (c : Nat) (L : List Int) (root pg : Int) (W : World) (h : LawIn W n m a c L) :
    Calls Tryd.prog 7 #[.int .i64 n, .slice a m c, .int .i64 root, .int .i64 pg] W fun e w' => e = .returned (.bool true) ∧ Below W.heap.size W w' := by
  by_cases hp : pg < 0 ∨ 1024 ≤ pg
  · exact walkTables_arg n m a c L root pg W h hp
  have hp0 : 0 ≤ pg := by omega
  have hp1 : pg < 1024 := by omega
  obtain ⟨⟨a1, b1, f⟩, h1⟩ : ∃ r, atE n L root (pg * 32) false = r := ⟨_, rfl⟩
  have hf := at_page n L root pg hp1
  rw [h1] at hf
  simp only at hf
  obtain ⟨⟨⟨p, x, c', g⟩, k⟩, h2⟩ : ∃ r, lookE n L root pg = r := ⟨_, rfl⟩
  have hk := h2
  unfold lookE at hk
  rw [if_neg (by omega), ← hf] at hk
  refine walkTables_in n m a c L root pg W h hp0 hp1 _ a1 b1 f k p x c' g rfl (by omega) (by omega) h1 h2 (fun i hi => ?_) ?_
  · obtain ⟨⟨a2, b2, f2⟩, h3⟩ : ∃ r, atE n L root ((pg - pg % 32 + i) * 32) false = r := ⟨_, rfl⟩
    refine ⟨a2, b2, f2, h3, ?_⟩
    have hf2 := at_page n L root (pg - pg % 32 + i) (by omega)
    rw [h3] at hf2
    simp only at hf2
    have ht := table_iff n L root pg
    have ht2 := table_iff n L root (pg - pg % 32 + i)
    rw [show (pg - pg % 32 + (i : Int)) / 32 = pg / 32 by omega, ← ht, ← hf, ← hf2] at ht2
    by_cases e2 : f = 2
    · exact Or.inl ⟨e2, ht2.2 e2⟩
    · exact Or.inr ⟨e2, by have := fun e => e2 (ht2.1 e); simpa using this⟩
  · rcases pageE_cases n L root pg with ⟨_, r⟩ | ⟨_, _, _, r⟩ | ⟨_, _, _, _, r⟩ | ⟨_, _, _, _, _, _, r⟩ | ⟨_, x', _, _, _, hx, r⟩
    all_goals
      rw [r] at hf hk
      simp only at hf
      subst hf
      simp only [z0] at hk
    · simp at hk; exact Or.inr (Or.inr (Or.inr ⟨rfl, hk.2.symm⟩))
    · simp at hk; exact Or.inr (Or.inl ⟨rfl, hk.2.symm⟩)
    · simp at hk; exact Or.inr (Or.inr (Or.inr ⟨rfl, hk.2.symm⟩))
    · simp at hk; exact Or.inr (Or.inr (Or.inl ⟨rfl, hk.2.symm, hk.1.1⟩))
    · obtain ⟨q1, q2, q3, q4⟩ := x'
      simp at hk; exact Or.inl ⟨rfl, hk.2.symm, hk.1.1.symm.trans hx⟩
theorem walkTables_walk (n : Int) (sv : Value) (S : List CellD) (root pg : Int) (W : World) (_hn : -9223372036854775808 ≤ n ∧ n ≤ 9223372036854775807) (hS : CellsAt W sv S) (_hroot : -9223372036854775808 ≤ root ∧ root ≤ 9223372036854775807) (_hpg : -9223372036854775808 ≤ pg ∧ pg ≤ 9223372036854775807) (hL : LaidW W) :
    Calls Tryd.prog 7 #[.int .i64 n, sv, .int .i64 root, .int .i64 pg] W fun e w' => e = .returned (.bool true) ∧ Below W.heap.size W w' := by
  rcases lawAny (n := n) hS hL with ⟨m, a, c, rfl, h⟩ | ⟨k, m, a, c, L, rfl, rfl, h⟩
  · exact walkTables_no n m a c root pg W h
  · exact walkTables_all k m a c L root pg W h
end Go.Proofs.YthkfffficobbjaaDoor
