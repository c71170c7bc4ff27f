/- The walk of the law WalkBoth. Conditions: the tables of package word read as laid; the words to lay can be read. -/
import Derived.Test.YthkfffficobbjaaDoorK13
namespace Go.Proofs.YthkfffficobbjaaDoor
open Go.RowKit
set_option maxRecDepth 100000

/-- What may be written to may be read, at the same place; a fault to read is one to write. -/
theorem atE_both {n : Nat} {L : List Int} {root va a b f x y g : Int} (h1 : atE n L root va true = (a, b, f)) (h2 : atE n L root va false = (x, y, g)) : (f = 0 → g = 0 ∧ x = a ∧ y = b) ∧ (g ≠ 0 → f = g) := by
  unfold atE at h1 h2
  by_cases k1 : 32768 ≤ va
  · rw [if_pos k1] at h1 h2
    cases h1; cases h2
    exact ⟨fun e => absurd e (by decide), fun _ => rfl⟩
  rw [if_neg k1] at h1 h2
  by_cases k2 : (pageE n L root (va / 32)).2 ≠ 0
  · rw [if_pos k2] at h1 h2
    cases h1; cases h2
    exact ⟨fun e => absurd e k2, fun _ => rfl⟩
  rw [if_neg k2] at h1 h2
  rw [if_neg (by simp), if_neg (by simp)] at h2
  cases h2
  refine ⟨fun e => ?_, fun e => absurd rfl e⟩
  subst e
  split at h1
  · simp at h1
  split at h1
  · simp at h1
  · cases h1
    exact ⟨rfl, rfl, rfl⟩
set_option maxHeartbeats 1000000 in
theorem walkBoth_no (n : Int) (m : Nat) (a : Option Addr) (c : Nat) (root va v : Int) (W : World) (h : LawOut W n m a c) :
    Calls Tryd.prog 6 #[.int .i64 n, .slice a m c, .int .i64 root, .int .u32 va, .int .u32 v] W fun e w' => e = .returned (.bool true) ∧ Below W.heap.size W w' := by
  have H := Lib.hid h
  clear h
  go_enter Tryd.func6, Tryd.ntmps6
  go_wp2_with fail
  refine H.out.fine.mono ?_
  rintro e w1 ⟨rfl, rfl⟩
  go_wp2_with fail
  refine (awake3_any W H.out.laid).mono ?_
  rintro e w1 ⟨rfl, hb⟩
  have B := Lib.hid hb
  clear hb
  go_wp2
  go_ret
  exact ⟨rfl, B.out⟩
set_option maxHeartbeats 4000000 in
theorem walkBoth_fault (n m : Nat) (a : Option Addr) (c : Nat) (L : List Int) (root va v : Int) (W : World) (h : LawIn W n m a c L) (h0 : 0 ≤ va) (f x y g : Int) (h1 : atE n L root va true = (0, 0, f)) (h2 : atE n L root va false = (x, y, g)) (hf : (f == 0) = false) (hf2 : (f != 0) = true) (hc : g = 0 ∨ ((g != 0) = true ∧ f = g)) :
    Calls Tryd.prog 6 #[.int .i64 n, .slice a m c, .int .i64 root, .int .u32 va, .int .u32 v] W fun e w' => e = .returned (.bool true) ∧ Below W.heap.size W w' := by
  have H := Lib.hid h
  clear h
  have H0 := Lib.hid h0
  have H1 := Lib.hid h1
  have H2 := Lib.hid h2
  clear h0 h1 h2
  rcases hc with rfl | ⟨hg, rfl⟩
  all_goals
    go_enter Tryd.func6, Tryd.ntmps6
    go_wp2_with fail
    refine H.out.fine.mono ?_
    rintro e w1 ⟨rfl, rfl⟩
    go_wp2_with fail
    refine H.out.built.mono ?_
    rintro e w2 ⟨mp, fb, rp, rb, rfl, hD⟩
    obtain ⟨w3, hw3⟩ : ∃ w3, w3 = w2.alloc (.cells #[.slice (some ⟨rb, 0, none⟩) (n * 32) (n * 32)] 30) := ⟨_, rfl⟩
    have D3 := Lib.hid (show Duo W mp fb w2.heap.size rb n L L w3 by rw [hw3]; exact hD.rebox)
    clear hD
    go_wp2_with fail
    rw [← hw3]
    clear hw3
    refine (at_eq H1.out mp fb w3 (H.out.laid.below D3.out.below) H.out.words D3.out.m H0.out).mono ?_
    rintro e w4 ⟨rfl, hb⟩
    have D4 := Lib.hid (D3.out.step hb)
    clear hb
    go_wp2_with fail
    refine (at_eq H2.out mp fb w4 (H.out.laid.below D4.out.below) H.out.words D4.out.m H0.out).mono ?_
    rintro e w5 ⟨rfl, hb⟩
    have D5 := Lib.hid (D4.out.step hb)
    clear hb
    go_wp2_with fail
    refine (store_eq H1.out v mp fb w5 (H.out.laid.below D5.out.below) H.out.words D5.out.m H0.out).mono ?_
    rintro e w6 ⟨rfl, hp⟩
    have D6 := Lib.hid (D5.out.put hp)
    clear hp
    go_wp2_with fail
    refine (awake3_any w6 (H.out.laid.below D6.out.below)).mono ?_
    rintro e w7 ⟨rfl, hb⟩
    have D7 := Lib.hid (D6.out.step hb)
    clear hb
    go_wp2
    go_ret
    exact ⟨rfl, D7.out.below⟩
set_option maxHeartbeats 4000000 in
theorem walkBoth_ok (n m : Nat) (a : Option Addr) (c : Nat) (L : List Int) (root va v : Int) (W : World) (h : LawIn W n m a c L) (h0 : 0 ≤ va) (x y p q h' r : Int) (L2 : List Int) (h1 : atE n L root va true = (x, y, 0)) (h2 : atE n L root va false = (x, y, 0)) (hok : okFQ n x y) (hs : storeL n L root va v = L2) (hw : Words L2) (hv : L2.getD (idx x y) 0 = v)
    (h3 : atE n L2 root va false = (p, q, h')) (h4 : loadE n L2 root va = (r, h'))
    (hc : (h' != 0) = true ∨ (h' = 0 ∧ (p != x) = true) ∨ (h' = 0 ∧ p = x ∧ (q != y) = true) ∨ (h' = 0 ∧ p = x ∧ q = y ∧ r = v)) :
    Calls Tryd.prog 6 #[.int .i64 n, .slice a m c, .int .i64 root, .int .u32 va, .int .u32 v] W fun e w' => e = .returned (.bool true) ∧ Below W.heap.size W w' := by
  have H := Lib.hid h
  clear h
  have H0 := Lib.hid h0
  have H1 := Lib.hid h1
  have H2 := Lib.hid h2
  have H3 := Lib.hid h3
  have H4 := Lib.hid h4
  have HOK := Lib.hid hok
  have HS := Lib.hid hs
  have HW := Lib.hid hw
  have HV := Lib.hid hv
  clear h0 h1 h2 h3 h4 hok hs hw hv
  rcases hc with hc | ⟨rfl, hc⟩ | ⟨rfl, rfl, hc⟩ | ⟨rfl, rfl, rfl, rfl⟩
  all_goals
    go_enter Tryd.func6, Tryd.ntmps6
    go_wp2_with fail
    refine H.out.fine.mono ?_
    rintro e w1 ⟨rfl, rfl⟩
    go_wp2_with fail
    refine H.out.built.mono ?_
    rintro e w2 ⟨mp, fb, rp, rb, rfl, hD⟩
    obtain ⟨w3, hw3⟩ : ∃ w3, w3 = w2.alloc (.cells #[.slice (some ⟨rb, 0, none⟩) (n * 32) (n * 32)] 30) := ⟨_, rfl⟩
    have D3 := Lib.hid (show Duo W mp fb w2.heap.size rb n L L w3 by rw [hw3]; exact hD.rebox)
    clear hD
    go_wp2_with fail
    rw [← hw3]
    clear hw3
    refine (at_eq H1.out mp fb w3 (H.out.laid.below D3.out.below) H.out.words D3.out.m H0.out).mono ?_
    rintro e w4 ⟨rfl, hb⟩
    have D4 := Lib.hid (D3.out.step hb)
    clear hb
    go_wp2_with fail
    refine (at_eq H2.out mp fb w4 (H.out.laid.below D4.out.below) H.out.words D4.out.m H0.out).mono ?_
    rintro e w5 ⟨rfl, hb⟩
    have D5 := Lib.hid (D4.out.step hb)
    clear hb
    go_wp2_with fail
    refine (store_eq H1.out _ mp fb w5 (H.out.laid.below D5.out.below) H.out.words D5.out.m H0.out).mono ?_
    rintro e w6 ⟨rfl, hp⟩
    rw [HS.out] at hp
    have D6 := Lib.hid (D5.out.put hp)
    clear hp
    go_wp2_with fail
    refine (at_eq H3.out mp fb w6 (H.out.laid.below D6.out.below) HW.out D6.out.m H0.out).mono ?_
    rintro e w7 ⟨rfl, hb⟩
    have D7 := Lib.hid (D6.out.step hb)
    clear hb
    go_wp2_with fail
    refine (load_eq H4.out mp fb w7 (H.out.laid.below D7.out.below) HW.out D7.out.m H0.out).mono ?_
    rintro e w8 ⟨rfl, hb⟩
    have D8 := Lib.hid (D7.out.step hb)
    clear hb
    go_wp2_with fail
    have C := read_i mp fb n L2 _ _ w8 D8.out.m HOK.out
    rw [HV.out] at C
    refine C.mono ?_
    clear C
    rintro e w9 ⟨rfl, hb⟩
    have D9 := Lib.hid (D8.out.step hb)
    clear hb
    go_wp2_with fail
    refine (awake3_any w9 (H.out.laid.below D9.out.below)).mono ?_
    rintro e wa ⟨rfl, hb⟩
    have Da := Lib.hid (D9.out.step hb)
    clear hb
    go_wp2
    go_ret
    exact ⟨rfl, Da.out.below⟩
theorem lay_length {n : Nat} : ∀ (S : List CellD) (L : List Int), L.length = n * 32 → (S.foldl (setAt n) L).length = n * 32
  | [], _, h => h
  | d :: S, L, h => lay_length S (setAt n L d) (by unfold setAt; split <;> simpa using h)
theorem lawLen {n : Int} {sv : Value} {S : List CellD} {W : World} (hS : CellsAt W sv S) (hL : LaidW W) : (∃ m a c, sv = .slice a m c ∧ LawOut W n m a c) ∨ (∃ (k : Nat) (m : Nat) (a : Option Addr) (c : Nat) (L : List Int), n = k ∧ sv = .slice a m c ∧ LawIn W k m a c L ∧ L.length = k * 32) := by
  by_cases h : 1 ≤ n ∧ n ≤ 12 ∧ S.length ≤ 200
  · obtain ⟨k, rfl⟩ := Int.eq_ofNat_of_zero_le (show 0 ≤ n by omega)
    have hb := built_in k sv S W (by omega) (by omega) (by omega) hS
    have hw : Words (layL k S) := words_lay hS.words
    obtain ⟨⟨a, c, rfl, _⟩, _⟩ := hS
    exact Or.inr ⟨k, _, a, c, _, rfl, rfl, ⟨fine_yes (k : Int) a S.length c W (by omega) (by omega) (by omega), hb, hw, hL, by omega, by omega⟩, lay_length S _ (by simp)⟩
  · obtain ⟨⟨a, c, rfl, _⟩, _⟩ := hS
    exact Or.inl ⟨_, a, c, rfl, fine_no n a S.length c W h, hL⟩
theorem walkBoth_in (n m : Nat) (a : Option Addr) (c : Nat) (L : List Int) (root va v : Int) (W : World) (h : LawIn W n m a c L) (hlen : L.length = n * 32) (h0 : 0 ≤ va) (hv : 0 ≤ v ∧ v ≤ 4294967295) :
    Calls Tryd.prog 6 #[.int .i64 n, .slice a m c, .int .i64 root, .int .u32 va, .int .u32 v] W fun e w' => e = .returned (.bool true) ∧ Below W.heap.size W w' := by
  obtain ⟨⟨x, y, f⟩, h1⟩ : ∃ r, atE n L root va true = r := ⟨_, rfl⟩
  obtain ⟨⟨x2, y2, g⟩, h2⟩ : ∃ r, atE n L root va false = r := ⟨_, rfl⟩
  obtain ⟨hb1, hb2⟩ := atE_both h1 h2
  by_cases hf : f = 0
  · obtain ⟨rfl, rfl, rfl⟩ := hb1 hf
    subst hf
    have hok : okFQ n x2 y2 := by
      have := (atE_ok (n := n) (L := L) (root := root) (va := va) (wr := true) (by rw [h1])).2.1
      rw [h1] at this
      exact this
    have hst : storeL n L root va v = L.set (idx x2 y2) v := by unfold storeL; rw [h1]; exact if_pos rfl
    have hgd : (L.set (idx x2 y2) v).getD (idx x2 y2) 0 = v := by rw [getD_set L _ _ v (by rw [hlen]; exact idx_lt hok), if_pos rfl]
    obtain ⟨⟨p, q, h'⟩, h3⟩ : ∃ r, atE n (L.set (idx x2 y2) v) root va false = r := ⟨_, rfl⟩
    have hld : loadE n (L.set (idx x2 y2) v) root va = (if h' = 0 then ((L.set (idx x2 y2) v).getD (idx p q) 0, 0) else (0, h')) := by unfold loadE; rw [h3]
    have hw : Words (L.set (idx x2 y2) v) := words_set h.words _ hv.1 (by omega)
    by_cases hh : h' = 0
    · subst hh
      rw [if_pos rfl] at hld
      refine walkBoth_ok n m a c L root va v W h h0 x2 y2 p q 0 _ _ h1 h2 hok hst hw hgd h3 hld (Or.inr ?_)
      by_cases hp : p = x2
      · by_cases hq : q = y2
        · subst hp; subst hq
          exact Or.inr (Or.inr ⟨rfl, rfl, rfl, hgd⟩)
        · exact Or.inr (Or.inl ⟨rfl, hp, by simpa using hq⟩)
      · exact Or.inl ⟨rfl, by simpa using hp⟩
    · rw [if_neg hh] at hld
      exact walkBoth_ok n m a c L root va v W h h0 x2 y2 p q h' _ _ h1 h2 hok hst hw hgd h3 hld (Or.inl (by simpa using hh))
  · obtain ⟨rfl, rfl⟩ := atE_no h1 hf
    refine walkBoth_fault n m a c L root va v W h h0 f x2 y2 g h1 h2 (by simpa using hf) (by simpa using hf) ?_
    by_cases hg : g = 0
    · exact Or.inl hg
    · exact Or.inr ⟨by simpa using hg, hb2 hg⟩
theorem walkBoth_walk (n : Int) (sv : Value) (S : List CellD) (root va v : Int) (W : World) (_hn : -9223372036854775808 ≤ n ∧ n ≤ 9223372036854775807) (hS : CellsAt W sv S) (_hroot : -9223372036854775808 ≤ root ∧ root ≤ 9223372036854775807) (hva : 0 ≤ va ∧ va ≤ 4294967295) (hv : 0 ≤ v ∧ v ≤ 4294967295) (hL : LaidW W) :
    Calls Tryd.prog 6 #[.int .i64 n, sv, .int .i64 root, .int .u32 va, .int .u32 v] W fun e w' => e = .returned (.bool true) ∧ Below W.heap.size W w' := by
  rcases lawLen (n := n) hS hL with ⟨m, a, c, rfl, h⟩ | ⟨k, m, a, c, L, rfl, rfl, h⟩
  · exact walkBoth_no n m a c root va v W h
  · exact walkBoth_in k m a c L root va v W h.1 h.2 hva.1 hv
end Go.Proofs.YthkfffficobbjaaDoor
