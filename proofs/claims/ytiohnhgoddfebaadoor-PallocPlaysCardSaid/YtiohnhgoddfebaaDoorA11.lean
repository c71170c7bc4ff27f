/- The walks of PallocNone and PallocRefs. Condition: the library's table reads as its initialiser lays it. -/
import Derived.Test.YtiohnhgoddfebaaDoorA10
namespace Go.Proofs.YtiohnhgoddfebaaDoor
open Go.RowKit
set_option maxRecDepth 100000

theorem poolInfo : (Tryd.prog.info? 52).map (fun i => (i.zero, i.size)) = some (some (.agg #[.pointer none, .slice none 0 0, .map none]), 3) := by kernel_rfl
theorem poolZero (w : World) : (zeroValue 52).run Tryd.prog w = .ok (.agg #[.pointer none, .slice none 0 0, .map none]) w := (zero_of_info poolInfo).1 w
theorem none_far (n : Int) (q c : Nat) (a : Option Addr) (W : World) (hq : 100 < q) (hT : LaidQ W) : Calls Tryd.prog 4 #[.int .i64 n, .slice a q c] W fun e w' => e = .returned (.bool true) ∧ Below W.heap.size W w' := by
  have HT := Lib.hid hT
  have hd : decide (100 < q) = true := decide_eq_true hq
  clear hT
  go_enter Tryd.func4, Tryd.ntmps4
  go_wp2_with (go_at_call 10; refine (awake9 _ HT.out).mono ?_; rintro e w2 ⟨rfl, hb⟩; have B := Lib.hid hb; clear hb)
  go_ret
  exact ⟨rfl, B.out⟩
structure NoneSt9 (W wr : World) : Prop where
  box : wr.heap[W.heap.size]? = some (.cells #[.pointer none, .slice none 0 0, .map none] 52 (0, 0))
  below : Below W.heap.size W wr
theorem NoneSt9.step {W w w' : World} (h : NoneSt9 W w) (hb : Below w.heap.size w w') : NoneSt9 W w' := ⟨below_block hb h.box, h.below.trans (hb.mono h.below.size)⟩
theorem NoneSt9.no {W w : World} (h : NoneSt9 W w) : NoPool w (some ⟨W.heap.size, 0, none⟩) := Or.inr ⟨_, rfl, h.box⟩
theorem NoneSt9.nil {W w : World} (_h : NoneSt9 W w) : NoPool w none := Or.inl rfl
def NoneRel9 (W : World) (s i : Value) (wr : World) : Prop := (s = .pointer none ∧ (i = .int .i64 0 ∨ i = .int .i64 1) ∨ (s = .pointer (some ⟨W.heap.size, 0, none⟩) ∧ i = .int .i64 2)) ∧ NoneSt9 W wr
set_option maxHeartbeats 4000000 in
theorem none_in (n : Int) (q c : Nat) (a : Option Addr) (W : World) (hq : ¬ 100 < q) (hT : LaidQ W) : Calls Tryd.prog 4 #[.int .i64 n, .slice a q c] W fun e w' => e = .returned (.bool true) ∧ Below W.heap.size W w' := by
  have hz := poolZero
  have HT := Lib.hid hT
  have hd : decide (100 < q) = false := decide_eq_false hq
  have N0 : Hid (NoneSt9 W (W.alloc (.cells #[.pointer none, .slice none 0 0, .map none] 52))) := Lib.hid ⟨heap_alloc_new W _, (Below.refl _ _).alloc (Nat.le_refl _) _⟩
  have NM : Hid (NoMem W none) := Lib.hid (Or.inl rfl)
  clear hT
  go_enter Tryd.func4, Tryd.ntmps4
  go_wp2_with (go_at_call 12; refine (newpool_nil none a q c _ NM.out).mono ?_; rintro e w2 ⟨rfl, rfl⟩)
  go_loopw [7, 9] (fun s i wr => NoneRel9 W s i wr) (fun _ i _ => (2 - (intOf i).toNat))
  case atStart => exact ⟨Or.inl ⟨rfl, Or.inl rfl⟩, N0.out⟩
  case round =>
    obtain ⟨hs, hN⟩ := hrel
    have N := Lib.hid hN
    clear hN
    rcases hs with ⟨rfl, rfl | rfl⟩ | ⟨rfl, rfl⟩
    · go_wp2_with (first
        | (go_at_call 18; refine (alloc_no _ n _ N.out.nil).mono ?_; rintro e w2 ⟨rfl, hb⟩; have N := Lib.hid (N.out.step hb); clear hb)
        | (go_at_call 19; refine (owner_no _ n _ N.out.nil).mono ?_; rintro e w2 ⟨rfl, rfl⟩)
        | (go_at_call 20; refine (share_no _ n _ N.out.nil).mono ?_; rintro e w2 ⟨rfl, rfl⟩)
        | (go_at_call 21; refine (free_no _ n _ N.out.nil).mono ?_; rintro e w2 ⟨rfl, rfl⟩)
        | (go_at_call 22; refine (refs_no _ n _ N.out.nil).mono ?_; rintro e w2 ⟨rfl, rfl⟩)
        | (go_at_call 23; refine (left_no _ n _ N.out.nil).mono ?_; rintro e w2 ⟨rfl, hb⟩; have N := Lib.hid (N.out.step hb); clear hb))
      go_roundw
      case rel => exact ⟨Or.inl ⟨rfl, Or.inr rfl⟩, N.out⟩
      case measure => simp [intOf]
    · go_wp2_with (first
        | (go_at_call 18; refine (alloc_no _ n _ N.out.no).mono ?_; rintro e w2 ⟨rfl, hb⟩; have N := Lib.hid (N.out.step hb); clear hb)
        | (go_at_call 19; refine (owner_no _ n _ N.out.no).mono ?_; rintro e w2 ⟨rfl, rfl⟩)
        | (go_at_call 20; refine (share_no _ n _ N.out.no).mono ?_; rintro e w2 ⟨rfl, rfl⟩)
        | (go_at_call 21; refine (free_no _ n _ N.out.no).mono ?_; rintro e w2 ⟨rfl, rfl⟩)
        | (go_at_call 22; refine (refs_no _ n _ N.out.no).mono ?_; rintro e w2 ⟨rfl, rfl⟩)
        | (go_at_call 23; refine (left_no _ n _ N.out.no).mono ?_; rintro e w2 ⟨rfl, hb⟩; have N := Lib.hid (N.out.step hb); clear hb))
      go_roundw
      case rel => exact ⟨Or.inr ⟨rfl, rfl⟩, N.out⟩
      case measure => simp [intOf]
    · go_wp2_with (go_at_call 10; refine (awake9 _ (HT.out.below N.out.below)).mono ?_; rintro e w2 ⟨rfl, hb⟩; have N := Lib.hid (N.out.step hb); clear hb)
      go_ret
      exact ⟨rfl, N.out.below⟩
theorem pallocNone_walk (n : Int) (v : Value) (W : World) (_hn : I64 n) (hv : ∃ a q c, v = .slice a q c) (hT : LaidQ W) : Calls Tryd.prog 4 #[.int .i64 n, v] W fun e w' => e = .returned (.bool true) ∧ Below W.heap.size W w' := by
  obtain ⟨a, q, c, rfl⟩ := hv
  by_cases hq : 100 < q
  · exact none_far n q c a W hq hT
  · exact none_in n q c a W hq hT

/-! ### PallocRefs -/
def P1 : List (Nat × Nat) := [(0, 1)]
abbrev Rh (h : Nat) : Nat → Nat := upd R0 0 h
theorem rh_alloc {h : Nat} (h0 : h ≠ 0) (L : List Int) : allocA P1 (Rh h) 0 = (0, 3) ∧ allocL P1 (Rh h) 0 L = L ∧ allocR P1 (Rh h) 0 = Rh h := by
  have e : freeL (0, 1) (Rh h) = [] := by
    rw [List.eq_nil_iff_forall_not_mem]
    intro x hx
    have := (mem_freeL _ _ _).1 hx
    obtain rfl : x = 0 := by simp only at this; omega
    exact h0 (by have h2 := this.2; simpa [Rh, upd] using h2)
  have e2 : partB P1 0 = true := rfl
  have e3 : P1.getD (0 : Int).toNat (0, 0) = (0, 1) := rfl
  refine ⟨?_, ?_, ?_⟩
  · rw [allocA, e2, if_pos rfl, e3, e]
  · rw [allocL, e2, if_pos rfl, e3, e]
  · rw [allocR, e2, if_pos rfl, e3, e]
theorem rh_held {h : Nat} (h0 : h ≠ 0) : heldE P1 (Rh h) 0 = 0 := by
  have : ownA P1 0 = (0, 0) := by decide
  simp [heldE, this, refI, upd, h0]
theorem rh_share {h : Nat} (h0 : h ≠ 0) (h1 : h < 64) : shareE P1 (Rh h) 0 = 0 ∧ shareR P1 (Rh h) 0 = Rh (h + 1) := by
  have e : shareE P1 (Rh h) 0 = 0 := by
    rw [shareE, rh_held h0, if_pos rfl, if_neg]
    simp [refI, upd]; omega
  exact ⟨e, by rw [shareR, e, if_pos rfl]; simp only [Int.toNat_zero, upd_same, upd_upd]⟩
theorem rh_most : shareE P1 (Rh 64) 0 = 3 ∧ shareR P1 (Rh 64) 0 = Rh 64 := by
  have e : shareE P1 (Rh 64) 0 = 3 := by decide
  exact ⟨e, by rw [shareR, e]; rfl⟩
theorem rh_free {h : Nat} (h0 : h ≠ 0) : freeR P1 (Rh h) 0 = Rh (h - 1) := by
  rw [freeR, rh_held h0, if_pos rfl]; simp only [Int.toNat_zero, upd_same, upd_upd]
theorem rh_zero : Rh 0 = R0 := by funext x; simp [upd]
theorem refs_far (s : Int) (W : World) (h : s < 0 ∨ 70 < s) (hT : LaidQ W) : Calls Tryd.prog 7 #[.int .i64 s] W fun e w' => e = .returned (.bool true) ∧ Below W.heap.size W w' := by
  have HT := Lib.hid hT
  clear hT
  rcases (show s < 0 ∨ (0 ≤ s ∧ 70 < s) by omega) with h | ⟨h1, h2⟩
  · have d1 : decide (s < 0) = true := decide_eq_true h
    go_enter Tryd.func7, Tryd.ntmps7
    go_wp2_with (go_at_call 10; refine (awake9 _ HT.out).mono ?_; rintro e w2 ⟨rfl, hb⟩; have B := Lib.hid hb; clear hb)
    go_ret
    exact ⟨rfl, B.out⟩
  · have d1 : decide (s < 0) = false := decide_eq_false (by omega)
    have d2 : decide (70 < s) = true := decide_eq_true h2
    go_enter Tryd.func7, Tryd.ntmps7
    go_wp2_with (go_at_call 10; refine (awake9 _ HT.out).mono ?_; rintro e w2 ⟨rfl, hb⟩; have B := Lib.hid hb; clear hb)
    go_ret
    exact ⟨rfl, B.out⟩
def RefsRel1 (W : World) (X : PIx) (L : List Int) (q : Nat) (hv iv : Value) (wr : World) : Prop := ∃ k h : Nat, hv = .int .i64 (h : Int) ∧ iv = .int .i64 (k : Int) ∧ k ≤ q ∧ 1 ≤ h ∧ h ≤ 64 ∧ OwnPool W wr X L (Rh h)
def RefsRel2 (W : World) (X : PIx) (L : List Int) (h : Nat) (iv : Value) (wr : World) : Prop := ∃ j : Nat, iv = .int .i64 (j : Int) ∧ j ≤ h ∧ OwnPool W wr X L (Rh (h - j))
set_option maxHeartbeats 4000000 in
theorem refs_in (q : Nat) (W : World) (hq : q ≤ 70) (hT : LaidQ W) : Calls Tryd.prog 7 #[.int .i64 (q : Int)] W fun e w' => e = .returned (.bool true) ∧ Below W.heap.size W w' := by
  have HT := Lib.hid hT
  have d1 : decide ((q : Int) < 0) = false := decide_eq_false (by omega)
  have d2 : decide (70 < (q : Int)) = false := decide_eq_false (by omega)
  clear hT
  go_enter Tryd.func7, Tryd.ntmps7
  go_wp2_with fail
  refine (new_ok 1 W (by decide) (by decide)).mono ?_
  rintro e w1 hp
  obtain ⟨mp, fb, rfl, ho⟩ := OwnMem.new hp
  have M1 := Lib.hid ho
  clear hp ho
  go_wp2_with fail
  have M2 := Lib.hid (M1.out.step ((Below.refl _ _).alloc (Nat.le_refl _) (.cells #[.int .i64 0, .int .i64 1] 59)))
  refine (newpool_any mp fb 1 _ [(0, 1)] _ _ M2.out.st (pairs_one (heap_alloc_new w1 _))).mono ?_
  rintro e w2 hp
  obtain ⟨X, rfl, ho, _, _, _, hP, _⟩ := OwnPool.new_ M2.out HT.out hp (okq_one 1 (by decide))
  have O := Lib.hid ho
  have HP := Lib.hid (show X.P = P1 from hP)
  clear hp ho hP
  go_wp2_with fail
  obtain ⟨L1, hL1⟩ : ∃ L1, allocL P1 R0 0 (List.replicate (1 * 32) 0) = L1 := ⟨_, rfl⟩
  refine (O.out.alloc_ (R' := Rh 1) HP.out (show allocA P1 R0 0 = (0, 0) by decide) hL1 rfl).mono ?_
  rintro e w3 ⟨rfl, ho⟩
  have O := Lib.hid ho
  clear ho hL1
  go_wp2_with fail
  go_loopw [9, 10] (fun hv iv wr => RefsRel1 W X L1 q hv iv wr) (fun _ i _ => q - (intOf i).toNat)
  case atStart => exact ⟨0, 1, rfl, rfl, Nat.zero_le _, by omega, by omega, O.out⟩
  case round =>
    obtain ⟨k, h, rfl, rfl, hk, h1, h64, ho⟩ := hrel
    have O := Lib.hid ho
    clear ho
    by_cases hlt : k < q
    · by_cases hh : h = 64
      · subst hh
        go_wp2_with (go_at_call 20; refine (O.out.share_ HP.out rh_most.1 rh_most.2 (by decide)).mono ?_; rintro e w4 ⟨rfl, ho⟩; have O := Lib.hid ho; clear ho)
        go_roundw
        case rel => exact ⟨k + 1, 64, rfl, by go_num, by omega, by omega, by omega, O.out⟩
        case measure => simp [intOf]; omega
      · have d3 : decide ((h : Int) < 64) = true := decide_eq_true (by omega)
        obtain ⟨s1, s2⟩ := rh_share (h := h) (by omega) (by omega)
        have S1 := Lib.hid s1
        have S2 := Lib.hid s2
        clear s1 s2
        go_wp2_with (go_at_call 20; refine (O.out.share_ HP.out S1.out S2.out (by decide)).mono ?_; rintro e w4 ⟨rfl, ho⟩; have O := Lib.hid ho; clear ho)
        go_roundw
        case rel => exact ⟨k + 1, h + 1, by go_num, by go_num, by omega, by omega, by omega, O.out⟩
        case measure => simp [intOf]; omega
    · obtain rfl : k = q := by omega
      go_wp2_with fail
      go_loopw [12] (fun iv wr => RefsRel2 W X L1 h iv wr) (fun i _ => h - (intOf i).toNat)
      case atStart => exact ⟨0, rfl, Nat.zero_le _, O.out⟩
      case round =>
        obtain ⟨j, rfl, hj, ho⟩ := hrel
        have O := Lib.hid ho
        clear ho
        by_cases hlt2 : j < h
        · obtain ⟨a1, a2, a3⟩ := rh_alloc (h := h - j) (by omega) L1
          have A1 := Lib.hid a1
          have A2 := Lib.hid a2
          have A3 := Lib.hid a3
          have E1 : Hid (heldE P1 (Rh (h - j)) 0 = 0) := Lib.hid (rh_held (by omega))
          have E2 : Hid (freeR P1 (Rh (h - j)) 0 = Rh (h - (j + 1))) := Lib.hid (by rw [rh_free (by omega)]; rfl)
          have E3 : Hid (refI (Rh (h - j)) 0 = (h : Int) - (j : Int)) := Lib.hid (by simp [refI, upd]; omega)
          clear a1 a2 a3
          go_wp2_with (first
            | (go_at_call 18; refine (O.out.alloc_ HP.out A1.out A2.out A3.out).mono ?_; rintro e w4 ⟨rfl, ho⟩; have O := Lib.hid ho; clear ho)
            | (go_at_call 22; refine (O.out.refs_ E3.out (by decide)).mono ?_; rintro e w5 ⟨rfl, rfl⟩)
            | (go_at_call 21; refine (O.out.free_ HP.out E1.out E2.out (by decide)).mono ?_; rintro e w6 ⟨rfl, ho⟩; have O := Lib.hid ho; clear ho))
          go_roundw
          case rel => exact ⟨j + 1, by go_num, by omega, O.out⟩
          case measure => simp [intOf]; omega
        · obtain rfl : j = h := by omega
          have O := Lib.hid (show OwnPool W wr X L1 R0 by have := O.out; rwa [Nat.sub_self, rh_zero] at this)
          obtain ⟨L2, hL2⟩ : ∃ L2, allocL P1 R0 0 L1 = L2 := ⟨_, rfl⟩
          have HL2 := Lib.hid hL2
          clear hL2
          go_wp2_with (first
            | (go_at_call 18; refine (O.out.alloc_ (R' := Rh 1) HP.out (show allocA P1 R0 0 = (0, 0) by decide) HL2.out rfl).mono ?_; rintro e w4 ⟨rfl, ho⟩; have O := Lib.hid ho; clear ho)
            | (go_at_call 10; refine (awake9 _ O.out.table).mono ?_; rintro e w2 ⟨rfl, hb⟩; have O := Lib.hid (O.out.step hb); clear hb))
          go_ret
          exact ⟨rfl, O.out.below⟩
theorem pallocRefs_walk (s : Int) (W : World) (_hs : I64 s) (hT : LaidQ W) : Calls Tryd.prog 7 #[.int .i64 s] W fun e w' => e = .returned (.bool true) ∧ Below W.heap.size W w' := by
  by_cases h : s < 0 ∨ 70 < s
  · exact refs_far s W h hT
  · obtain ⟨q, rfl⟩ := Int.eq_ofNat_of_zero_le (show 0 ≤ s by omega)
    exact refs_in q W (by omega) hT
end Go.Proofs.YtiohnhgoddfebaaDoor
