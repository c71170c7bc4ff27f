/- The walks of the laws WalkAt and WalkLook. Conditions: the tables of package word read as laid; the words to lay can be read. -/
import Derived.Test.YthkfffficobbjaaDoorK10
namespace Go.Proofs.YthkfffficobbjaaDoor
open Go.RowKit
set_option maxRecDepth 100000

/-- The law's own box of the document's memory. -/
theorem Duo.rebox {W w : World} {mp fb rp rb n : Nat} {L K : List Int} (h : Duo W mp fb rp rb n L K w) : Duo W mp fb w.heap.size rb n L K (w.alloc (.cells #[.slice (some ⟨rb, 0, none⟩) (n * 32) (n * 32)] 30)) :=
  have hb := (Below.refl w.heap.size w).alloc (Nat.le_refl _) (.cells #[.slice (some ⟨rb, 0, none⟩) (n * 32) (n * 32)] 30)
  have h2 := h.step hb
  ⟨h2.m, ⟨heap_alloc_new _ _, h2.r.row, h2.r.len, Nat.ne_of_gt (lt_of_block h.r.row), h2.r.top⟩, h2.below, h2.lf, h2.lr, Nat.ne_of_lt (lt_of_block h.m.row), h2.ne2, h2.ne3⟩

/-- What every law of layer 3 begins with, where its input is fine. -/
structure LawIn (W : World) (n m : Nat) (a : Option Addr) (c : Nat) (L : List Int) : Prop where
  fine : Calls Tryd.prog 9 #[.int .i64 n, .slice a m c] W fun e w' => e = .returned (.bool true) ∧ W = w'
  built : Calls Tryd.prog 11 #[.int .i64 n, .slice a m c] W (BuPost W n L)
  words : Words L
  laid : LaidW W
  lo : 1 ≤ n
  hi : n ≤ 12
theorem lawIn {n : Nat} {v : Value} {S : List CellD} {W : World} (h1 : 1 ≤ n) (h2 : n ≤ 12) (h3 : S.length ≤ 200) (hS : CellsAt W v S) (hL : LaidW W) : ∃ m a c L, v = .slice a m c ∧ LawIn W n m a c L := by
  have hb := built_in n v S W h1 (by omega) (by omega) hS
  have hw : Words (layL n S) := words_lay hS.words
  obtain ⟨⟨a, c, rfl, _⟩, _⟩ := hS
  exact ⟨_, a, c, _, rfl, fine_yes (n : Int) a S.length c W (by omega) (by omega) (by omega), hb, hw, hL, h1, h2⟩
/-- And where it is not. -/
structure LawOut (W : World) (n : Int) (m : Nat) (a : Option Addr) (c : Nat) : Prop where
  fine : Calls Tryd.prog 9 #[.int .i64 n, .slice a m c] W fun e w' => e = .returned (.bool false) ∧ W = w'
  laid : LaidW W
theorem lawAny {n : Int} {v : Value} {S : List CellD} {W : World} (hS : CellsAt W v S) (hL : LaidW W) : (∃ m a c, v = .slice a m c ∧ LawOut W n m a c) ∨ (∃ (k : Nat) (m : Nat) (a : Option Addr) (c : Nat) (L : List Int), n = k ∧ v = .slice a m c ∧ LawIn W k m a c L) := by
  by_cases h : 1 ≤ n ∧ n ≤ 12 ∧ S.length ≤ 200
  · obtain ⟨k, rfl⟩ := Int.eq_ofNat_of_zero_le (show 0 ≤ n by omega)
    obtain ⟨m, a, c, L, hv, hl⟩ := lawIn (n := k) (by omega) (by omega) h.2.2 hS hL
    exact Or.inr ⟨k, m, a, c, L, rfl, hv, hl⟩
  · obtain ⟨⟨a, c, rfl, _⟩, _⟩ := hS
    exact Or.inl ⟨_, a, c, rfl, fine_no n a S.length c W h, hL⟩

set_option maxHeartbeats 1000000 in
theorem walkAt_no (n : Int) (m : Nat) (a : Option Addr) (c : Nat) (root va : Int) (wr : Bool) (W : World) (h : LawOut W n m a c) :
    Calls Tryd.prog 3 #[.int .i64 n, .slice a m c, .int .i64 root, .int .u32 va, .bool wr] W fun e w' => e = .returned (.bool true) ∧ Below W.heap.size W w' := by
  have H := Lib.hid h
  clear h
  go_enter Tryd.func3, Tryd.ntmps3
  go_wp2_with fail
  refine H.out.fine.mono ?_
  rintro e w1 ⟨rfl, rfl⟩
  go_wp2_with fail
  refine (awake3_any W H.out.laid).mono ?_
  rintro e w1 ⟨rfl, hb⟩
  have B := Lib.hid hb
  clear hb
  go_wp2
  go_ret
  exact ⟨rfl, B.out⟩
set_option maxHeartbeats 4000000 in
theorem walkAt_in (n m : Nat) (a : Option Addr) (c : Nat) (L : List Int) (root va : Int) (wr : Bool) (W : World) (h : LawIn W n m a c L) (h0 : 0 ≤ va) :
    Calls Tryd.prog 3 #[.int .i64 n, .slice a m c, .int .i64 root, .int .u32 va, .bool wr] W fun e w' => e = .returned (.bool true) ∧ Below W.heap.size W w' := by
  have H := Lib.hid h
  obtain ⟨⟨x, y, f⟩, hr⟩ : ∃ r, atE n L root va wr = r := ⟨_, rfl⟩
  have HR := Lib.hid hr
  have H0 := Lib.hid h0
  clear h hr h0
  by_cases hva : 32768 ≤ va
  all_goals
    have HN : Hid (∀ w, LaidW w → _) := Lib.hid (fun w hw => at_nil none root va wr w hw (Or.inl rfl) H0.out)
    first | rw [if_pos hva] at HN | rw [if_neg hva] at HN
    go_enter Tryd.func3, Tryd.ntmps3
    go_wp2_with fail
    refine H.out.fine.mono ?_
    rintro e w1 ⟨rfl, rfl⟩
    go_wp2_with fail
    refine H.out.built.mono ?_
    rintro e w2 ⟨mp, fb, rp, rb, rfl, hD⟩
    obtain ⟨w3, hw3⟩ : ∃ w3, w3 = w2.alloc (.cells #[.slice (some ⟨rb, 0, none⟩) (n * 32) (n * 32)] 30) := ⟨_, rfl⟩
    have D3 := Lib.hid (show Duo W mp fb w2.heap.size rb n L L w3 by rw [hw3]; exact hD.rebox)
    clear hD
    go_wp2_with fail
    rw [← hw3]
    clear hw3
    have C := at_mem mp fb n L root va wr w3 (H.out.laid.below D3.out.below) H.out.words D3.out.m H0.out
    rw [HR.out] at C
    refine C.mono ?_
    clear C
    rintro e w4 ⟨rfl, hb⟩
    have D4 := Lib.hid (D3.out.step hb)
    have cb := D4.out.r.cellB
    clear hb
    go_wp2_with fail
    have C := rat_any w2.heap.size rb n L root va wr w4 H.out.words D4.out.r H0.out
    rw [HR.out] at C
    refine C.mono ?_
    clear C
    rintro e w5 ⟨rfl, hb⟩
    have D5 := Lib.hid (D4.out.step hb)
    clear hb cb
    go_wp2_with fail
    refine (HN.out w5 (H.out.laid.below D5.out.below)).mono ?_
    rintro e w6 ⟨rfl, hb⟩
    have D6 := Lib.hid (D5.out.step hb)
    clear hb
    go_wp2_with fail
    refine (awake3_any w6 (H.out.laid.below D6.out.below)).mono ?_
    rintro e w7 ⟨rfl, hb⟩
    have D7 := Lib.hid (D6.out.step hb)
    clear hb
    go_wp2
    go_ret
    exact ⟨rfl, D7.out.below⟩
theorem walkAt_walk (n : Int) (v : Value) (S : List CellD) (root va : Int) (wr : Bool) (W : World) (_hn : -9223372036854775808 ≤ n ∧ n ≤ 9223372036854775807) (hS : CellsAt W v S) (_hr : -9223372036854775808 ≤ root ∧ root ≤ 9223372036854775807) (h0 : 0 ≤ va ∧ va ≤ 4294967295) (hL : LaidW W) :
    Calls Tryd.prog 3 #[.int .i64 n, v, .int .i64 root, .int .u32 va, .bool wr] W fun e w' => e = .returned (.bool true) ∧ Below W.heap.size W w' := by
  rcases lawAny (n := n) hS hL with ⟨m, a, c, rfl, h⟩ | ⟨k, m, a, c, L, rfl, rfl, h⟩
  · exact walkAt_no n m a c root va wr W h
  · exact walkAt_in k m a c L root va wr W h h0.1
end Go.Proofs.YthkfffficobbjaaDoor
