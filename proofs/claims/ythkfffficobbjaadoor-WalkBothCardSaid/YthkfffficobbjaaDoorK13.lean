/- The walk of the law WalkLoad. Conditions: the tables of package word read as laid; the words to lay can be read. -/
import Derived.Test.YthkfffficobbjaaDoorKE
namespace Go.Proofs.YthkfffficobbjaaDoor
open Go.RowKit
set_option maxRecDepth 100000

/-- Where nothing is reached, the place is zero. -/
theorem atE_no {n : Nat} {L : List Int} {root va : Int} {wr : Bool} {a b f : Int} (h : atE n L root va wr = (a, b, f)) (hf : f ≠ 0) : a = 0 ∧ b = 0 := by
  by_cases h1 : (atE n L root va wr).2.2 = 0
  · rw [h] at h1; exact absurd h1 hf
  · unfold atE at h h1
    split at h
    · cases h; exact ⟨rfl, rfl⟩
    split at h
    · cases h; exact ⟨rfl, rfl⟩
    split at h
    · cases h; exact ⟨rfl, rfl⟩
    split at h
    · cases h; exact ⟨rfl, rfl⟩
    · cases h; exact absurd rfl hf
theorem rwrite_i (rp rb n : Nat) (L : List Int) (f q v : Int) (w : World) (hr : RefSt w rp rb n L) (h : okFQ n f q) :
    Calls Tryd.prog 19 #[.pointer (some ⟨rp, 0, none⟩), .int .i64 f, .int .i64 q, .int .u32 v] w fun e w' => e = .returned (.int .i64 0) ∧ RPuts w w' rp rb n (L.set (idx f q) v) := by
  have h' := h
  unfold okFQ at h'
  obtain ⟨f', rfl⟩ := Int.eq_ofNat_of_zero_le h'.1
  obtain ⟨q', rfl⟩ := Int.eq_ofNat_of_zero_le h'.2.2.1
  exact rwrite_yes rp rb n L f' q' v w hr (by omega) (by omega)
def LoadRel (W : World) (mp fb rp rb n : Nat) (L : List Int) (i : Value) (wr : World) : Prop := ∃ k : Nat, i = .int .i64 k ∧ k ≤ n ∧ Duo W mp fb rp rb n L L wr
set_option maxHeartbeats 1000000 in
theorem walkLoad_no (n : Int) (m : Nat) (a : Option Addr) (c : Nat) (root va v : Int) (W : World) (h : LawOut W n m a c) :
    Calls Tryd.prog 5 #[.int .i64 n, .slice a m c, .int .i64 root, .int .u32 va, .int .u32 v] W fun e w' => e = .returned (.bool true) ∧ Below W.heap.size W w' := by
  have H := Lib.hid h
  clear h
  go_enter Tryd.func5, Tryd.ntmps5
  go_wp2_with fail
  refine H.out.fine.mono ?_
  rintro e w1 ⟨rfl, rfl⟩
  go_wp2_with fail
  refine (awake3_any W H.out.laid).mono ?_
  rintro e w1 ⟨rfl, hb⟩
  have B := Lib.hid hb
  clear hb
  go_wp2
  go_ret
  exact ⟨rfl, B.out⟩
set_option maxHeartbeats 4000000 in
theorem walkLoad_case (n m : Nat) (a : Option Addr) (c : Nat) (L : List Int) (root va v : Int) (W : World) (h : LawIn W n m a c L) (h0 : 0 ≤ va) (x y g s t e1 V v0 : Int) (L2 : List Int) (hld : loadE n L root va = (v0, g)) (h1 : atE n L root va false = (x, y, g)) (h2 : atE n L root va true = (s, t, e1)) (hok : okFQ n x y) (hV : L.getD (idx x y) 0 = V)
    (hs : storeL n L root va v = L2) (hc1 : (g = 0 ∧ v0 = V) ∨ ((g != 0) = true ∧ v0 = 0)) (hc2 : (e1 = 0 ∧ okFQ n s t ∧ L2 = L.set (idx s t) v) ∨ ((e1 == 0) = false ∧ L2 = L)) :
    Calls Tryd.prog 5 #[.int .i64 n, .slice a m c, .int .i64 root, .int .u32 va, .int .u32 v] W fun e w' => e = .returned (.bool true) ∧ Below W.heap.size W w' := by
  have H := Lib.hid h
  clear h
  have H0 := Lib.hid h0
  have HLD := Lib.hid hld
  have H1 := Lib.hid h1
  have H2 := Lib.hid h2
  have HOK := Lib.hid hok
  have HV := Lib.hid hV
  have HS := Lib.hid hs
  have HN := Lib.hid H.out.hi
  clear h0 hld h1 h2 hok hV hs
  rcases hc1 with ⟨rfl, rfl⟩ | ⟨hg, rfl⟩
  all_goals
    rcases hc2 with ⟨rfl, hok2, hL2⟩ | ⟨he, hL2⟩
    all_goals
      go_enter Tryd.func5, Tryd.ntmps5
      go_wp2_with fail
      refine H.out.fine.mono ?_
      rintro e w1 ⟨rfl, rfl⟩
      go_wp2_with fail
      refine H.out.built.mono ?_
      rintro e w2 ⟨mp, fb, rp, rb, rfl, hD⟩
      obtain ⟨w3, hw3⟩ : ∃ w3, w3 = w2.alloc (.cells #[.slice (some ⟨rb, 0, none⟩) (n * 32) (n * 32)] 30) := ⟨_, rfl⟩
      have D3 := Lib.hid (show Duo W mp fb w2.heap.size rb n L L w3 by rw [hw3]; exact hD.rebox)
      clear hD
      go_wp2_with fail
      rw [← hw3]
      clear hw3
      refine (load_eq HLD.out mp fb w3 (H.out.laid.below D3.out.below) H.out.words D3.out.m H0.out).mono ?_
      rintro e w4 ⟨rfl, hb⟩
      have D4 := Lib.hid (D3.out.step hb)
      have cb := D4.out.r.cellB
      clear hb
      go_wp2_with fail
      refine (rat_eq H1.out w2.heap.size rb w4 H.out.words D4.out.r H0.out).mono ?_
      rintro e w5 ⟨rfl, hb⟩
      have D5 := Lib.hid (D4.out.step hb)
      clear hb cb
      have cb := D5.out.r.cellB
      go_wp2_with fail
      have C := rread_i w2.heap.size rb n L x y w5 D5.out.r HOK.out
      rw [HV.out] at C
      refine C.mono ?_
      clear C
      rintro e w6 ⟨rfl, hb⟩
      have D6 := Lib.hid (D5.out.step hb)
      clear hb cb
      have cb := D6.out.r.cellB
      go_wp2_with fail
      refine (rat_eq H2.out w2.heap.size rb w6 H.out.words D6.out.r H0.out).mono ?_
      rintro e w7 ⟨rfl, hb⟩
      have D7 := Lib.hid (D6.out.step hb)
      clear hb cb
      go_wp2_with fail
      refine (store_eq H2.out v mp fb w7 (H.out.laid.below D7.out.below) H.out.words D7.out.m H0.out).mono ?_
      rintro e w8 ⟨rfl, hp⟩
      rw [HS.out] at hp
      have D8 := Lib.hid (D7.out.put hp)
      clear hp
      first
        | (have HOK2 := Lib.hid hok2; clear hok2; go_wp2_with fail; refine (rwrite_i w2.heap.size rb n L s t v w8 D8.out.r HOK2.out).mono ?_; rintro e w9 ⟨rfl, hp⟩; have D9 := Lib.hid (show Duo W mp fb w2.heap.size rb n L2 L2 w9 from (by have := D8.out.rput hp; rw [← hL2] at this; exact this)); clear hp; go_wp2_with fail)
        | (have D9 := Lib.hid (show Duo W mp fb w2.heap.size rb n L2 L2 w8 from (by have := D8.out; rw [← hL2] at this; rw [hL2] at this ⊢; exact this)); go_wp2_with fail)
      generalize w2.heap.size = rq at *
      go_loopw [25] (fun i wr => LoadRel W mp fb rq rb n L2 i wr) (fun i _ => (n - (intOf i).toNat))
      case atStart => exact ⟨0, rfl, Nat.zero_le _, D9.out⟩
      case round =>
        obtain ⟨k, rfl, hk, hd⟩ := hrel
        have E1 := Lib.hid hd
        clear hd
        have hn12 : n ≤ 12 := HN.out
        by_cases hlt : k < n
        · go_wp2_with fail
          refine (page_ok mp fb n k L2 wr E1.out.m hlt).mono ?_
          rintro e wa ⟨v1, rfl, hr, hb⟩
          have E2 := Lib.hid (E1.out.step hb)
          have R2 := Lib.hid hr.rowAt
          have cb := E2.out.r.cellB
          clear hr hb
          go_wp2_with fail
          refine (rpage_yes rq rb n k L2 wa E2.out.r hlt).mono ?_
          rintro e wb ⟨v2, rfl, hr, hb⟩
          have E3 := Lib.hid (E2.out.step hb)
          have R3 := Lib.hid (R2.out.below hb)
          have Q3 := Lib.hid hr
          clear hr hb cb
          go_wp2_with fail
          refine (same_yes v1 v2 (rowOf L2 k) wb (by rw [rowOf_length E3.out.m.len hlt]; decide) R3.out Q3.out).mono ?_
          rintro e wc ⟨rfl, hb⟩
          have E4 := Lib.hid (E3.out.step hb)
          clear hb
          go_wp2
          go_roundw
          case rel => exact ⟨k + 1, by go_num, by omega, E4.out⟩
          case measure => simp [intOf]; omega
        · obtain rfl : k = n := by omega
          clear hlt
          go_wp2_with fail
          refine (awake3_any wr (H.out.laid.below E1.out.below)).mono ?_
          rintro e wa ⟨rfl, hb⟩
          have E2 := Lib.hid (E1.out.step hb)
          clear hb
          go_wp2
          go_ret
          exact ⟨rfl, E2.out.below⟩
theorem walkLoad_in (n m : Nat) (a : Option Addr) (c : Nat) (L : List Int) (root va v : Int) (W : World) (h : LawIn W n m a c L) (h0 : 0 ≤ va) :
    Calls Tryd.prog 5 #[.int .i64 n, .slice a m c, .int .i64 root, .int .u32 va, .int .u32 v] W fun e w' => e = .returned (.bool true) ∧ Below W.heap.size W w' := by
  obtain ⟨⟨x, y, g⟩, h1⟩ : ∃ r, atE n L root va false = r := ⟨_, rfl⟩
  obtain ⟨⟨s, t, e1⟩, h2⟩ : ∃ r, atE n L root va true = r := ⟨_, rfl⟩
  have hok : okFQ n x y := by
    by_cases hg : g = 0
    · have := (atE_ok (n := n) (L := L) (root := root) (va := va) (wr := false) (by rw [h1]; exact hg)).2.1
      rw [h1] at this
      exact this
    · obtain ⟨rfl, rfl⟩ := atE_no h1 hg
      have := h.lo
      unfold okFQ
      omega
  have hc2 : (e1 = 0 ∧ okFQ n s t ∧ storeL n L root va v = L.set (idx s t) v) ∨ ((e1 == 0) = false ∧ storeL n L root va v = L) := by
    unfold storeL
    rw [h2]
    by_cases he : e1 = 0
    · have := (atE_ok (n := n) (L := L) (root := root) (va := va) (wr := true) (by rw [h2]; exact he)).2.1
      rw [h2] at this
      exact Or.inl ⟨he, this, if_pos he⟩
    · exact Or.inr ⟨by simpa using he, if_neg he⟩
  have hld : loadE n L root va = (if g = 0 then (L.getD (idx x y) 0, 0) else (0, g)) := by unfold loadE; rw [h1]
  by_cases hg : g = 0
  · subst hg
    rw [if_pos rfl] at hld
    exact walkLoad_case n m a c L root va v W h h0 x y 0 s t e1 _ _ _ hld h1 h2 hok rfl rfl (Or.inl ⟨rfl, rfl⟩) hc2
  · rw [if_neg hg] at hld
    exact walkLoad_case n m a c L root va v W h h0 x y g s t e1 _ _ _ hld h1 h2 hok rfl rfl (Or.inr ⟨by simpa using hg, rfl⟩) hc2
theorem walkLoad_walk (n : Int) (sv : Value) (S : List CellD) (root va v : Int) (W : World) (_hn : -9223372036854775808 ≤ n ∧ n ≤ 9223372036854775807) (hS : CellsAt W sv S) (_hroot : -9223372036854775808 ≤ root ∧ root ≤ 9223372036854775807) (hva : 0 ≤ va ∧ va ≤ 4294967295) (_hv : 0 ≤ v ∧ v ≤ 4294967295) (hL : LaidW W) :
    Calls Tryd.prog 5 #[.int .i64 n, sv, .int .i64 root, .int .u32 va, .int .u32 v] W fun e w' => e = .returned (.bool true) ∧ Below W.heap.size W w' := by
  rcases lawAny (n := n) hS hL with ⟨m, a, c, rfl, h⟩ | ⟨k, m, a, c, L, rfl, rfl, h⟩
  · exact walkLoad_no n m a c root va v W h
  · exact walkLoad_in k m a c L root va v W h hva.1
end Go.Proofs.YthkfffficobbjaaDoor
