/- The contracts of package region's put and its closure, ask, Find, Covers, Pages. Condition: the slices lie in memory. -/
import Derived.Test.YtmfpoagimedhnaaD6
namespace Go.Proofs.Ytmfpoagimedhnaa
open Go.RowKit Go.Maps
set_option maxRecDepth 100000

/-- What the closure of put says of a page. -/
def saysU (L : List Ar) (a : Ar) (p : Int) : Bool := if HasD a p then a.2.2 else (atD L p == some true)
def saysF (L : List Ar) (a : Ar) (is : Bool) (p : Int) : Option Bool := if HasD a p then (if is then some a.2.2 else none) else atD L p
theorem says_eq (L : List Ar) (a : Ar) (is : Bool) (p : Int) (b : Bool) (h : saysF L a is p = some b) : saysU L a p = b := by
  unfold saysF at h
  unfold saysU
  split at h
  · rename_i hp
    rw [if_pos hp]
    cases is with
    | true => simpa using h
    | false => simp at h
  · rename_i hp
    rw [if_neg hp, h]
    cases b <;> rfl
theorem says_yes (L : List Ar) (a : Ar) (p : Int) : saysF L a true p = withD a (atD L) p := rfl
theorem says_no (L : List Ar) (a : Ar) (p : Int) : saysF L a false p = lessD a.1 a.2.1 (atD L) p := rfl
theorem says_out {L : List Ar} {a : Ar} (is : Bool) (up : UpD L) (ha : FitD a.1 a.2.1) (p : Int) (hp : p < 0 ∨ 1024 ≤ p) : saysF L a is p = none := by
  unfold saysF
  rw [if_neg (by unfold FitD at ha; unfold HasD; omega)]
  exact atD_range up hp
/-- The boxes of put. -/
structure BoxD (w : World) (ka ki kl : Nat) (a : Ar) (is : Bool) (v : Value) : Prop where
  ba : w.heap[ka]? = some (.cells #[.int .i64 a.1, .int .i64 a.2.1, .bool a.2.2] 32 (0, 0))
  bi : w.heap[ki]? = some (.cells #[.bool is] 4 (0, 0))
  bl : w.heap[kl]? = some (.cells #[v] 22 (0, 0))
theorem BoxD.below {w w' : World} {ka ki kl : Nat} {a : Ar} {is : Bool} {v : Value} (h : BoxD w ka ki kl a is v) (hb : Below w.heap.size w w') : BoxD w' ka ki kl a is v := ⟨below_block hb h.ba, below_block hb h.bi, below_block hb h.bl⟩
theorem cell1D {w : World} {b : Nat} {x : Value} {t : TypeId} (h : w.heap[b]? = some (.cells #[x] t (0, 0))) : w.cell? ⟨b, 0, none⟩ = some x := by rw [cell_of_row _ _ _ _ _ _ h]; rfl
set_option maxHeartbeats 1000000 in
theorem say_ok (L : List Ar) (up : UpD L) (x y : Int) (d is : Bool) (ha : FitD x y) (v : Value) (ka ki kl : Nat) (w : World) (h : ArAt w v L) (hB : BoxD w ka ki kl (x, y, d) is v) (p : Int) :
    Calls Try.prog 39 #[.int .i64 p, .pointer (some ⟨ka, 0, none⟩), .pointer (some ⟨ki, 0, none⟩), .pointer (some ⟨kl, 0, none⟩)] w fun e w' => e = .returned (.tuple #[.bool (saysU L (x, y, d) p), .bool (saysF L (x, y, d) is p).isSome]) ∧ Below w.heap.size w w' := by
  obtain ⟨c0, c1, c2⟩ := cells3 hB.ba
  simp only at c0 c1 c2
  have H := Lib.hid h
  have BX := Lib.hid hB
  have UP := Lib.hid up
  have HA := Lib.hid ha
  obtain ⟨u, hu⟩ : ∃ u, u = saysU L (x, y, d) p := ⟨_, rfl⟩
  obtain ⟨f, hf⟩ : ∃ f, f = (saysF L (x, y, d) is p).isSome := ⟨_, rfl⟩
  rw [← hu, ← hf]
  have HU := Lib.hid hu
  have HF := Lib.hid hf
  clear h hB up ha hu hf
  by_cases hp : HasD (x, y, d) p
  · have hd : decide (HasD (x, y, d) p) = true := decide_eq_true hp
    obtain rfl : u = d := by rw [HU.out]; unfold saysU; rw [if_pos hp]
    obtain rfl : f = is := by rw [HF.out]; unfold saysF; rw [if_pos hp]; cases is <;> rfl
    have HH : Hid (∀ V, Calls Try.prog 37 #[.agg #[.int .i64 x, .int .i64 y, .bool u], .int .i64 p] V fun e w' => e = .returned (.bool true) ∧ Below V.heap.size V w') := Lib.hid fun V => by rw [← hd]; exact has_okD x y u p HA.out V
    clear hd hp
    go_enter Try.func39, Try.ntmps39
    go_wp2_with fail
    refine (HH.out _).mono ?_
    rintro e w1 ⟨rfl, hb1⟩
    have X1 := Lib.hid (BX.out.below hb1)
    have B1 := Lib.hid hb1
    clear c0 c1 c2 hb1
    obtain ⟨c0, c1, c2⟩ := cells3 X1.out.ba
    simp only at c0 c1 c2
    have c3 := cell1D X1.out.bi
    go_wp2_with fail
    go_quiet (fail)
    go_wp2
    go_ret2
    exact ⟨rfl, below_drewN B1.out _⟩
  · have hd : decide (HasD (x, y, d) p) = false := decide_eq_false hp
    obtain rfl : u = (atD L p == some true) := by rw [HU.out]; unfold saysU; rw [if_neg hp]
    obtain rfl : f = (atD L p).isSome := by rw [HF.out]; unfold saysF; rw [if_neg hp]
    have HH : Hid (∀ V, Calls Try.prog 37 #[.agg #[.int .i64 x, .int .i64 y, .bool d], .int .i64 p] V fun e w' => e = .returned (.bool false) ∧ Below V.heap.size V w') := Lib.hid fun V => by rw [← hd]; exact has_okD x y d p HA.out V
    clear hd hp HU HF
    go_enter Try.func39, Try.ntmps39
    go_wp2_with fail
    refine (HH.out _).mono ?_
    rintro e w1 ⟨rfl, hb1⟩
    have X1 := Lib.hid (BX.out.below hb1)
    have A1 := Lib.hid (H.out.below hb1)
    have B1 := Lib.hid hb1
    clear c0 c1 c2 hb1
    have c3 := cell1D X1.out.bl
    go_wp2_with fail
    refine (find_okD L UP.out v p _ A1.out).mono ?_
    rintro e w2 ⟨rfl, hb2⟩
    have B2 := Lib.hid (B1.out.trans (hb2.mono B1.out.size))
    clear hb2
    go_wp2
    go_ret2
    exact ⟨rfl, B2.out⟩
set_option maxHeartbeats 1000000 in
theorem put_okD (L : List Ar) (up : UpD L) (x y : Int) (d is : Bool) (ha : FitD x y) (v : Value) (w : World) (h : ArAt w v L) :
    Calls Try.prog 31 #[v, .agg #[.int .i64 x, .int .i64 y, .bool d], .bool is] w fun e w' => ∃ v er M, e = .returned (.tuple #[v, .int .i64 er]) ∧ AnsD (saysF L (x, y, d) is) er M ∧ ArAt w' v M ∧ Below w.heap.size w w' := by
  obtain ⟨sa, sc, hv⟩ := h.form
  obtain ⟨sn, hn⟩ : ∃ sn, sn = L.length := ⟨_, rfl⟩
  rw [← hn] at hv
  subst hv
  clear hn
  obtain ⟨w3, hw3⟩ : ∃ w3, w3 = ((w.alloc (.cells #[.slice sa sn sc] 22)).alloc (.cells #[.int .i64 x, .int .i64 y, .bool d] 32)).alloc (.cells #[.bool is] 4) := ⟨_, rfl⟩
  have hb1 : Below w.heap.size w (w.alloc (.cells #[.slice sa sn sc] 22)) := (Below.refl _ _).alloc (Nat.le_refl _) _
  have hb2 := (Below.refl (w.alloc (.cells #[.slice sa sn sc] 22)).heap.size (w.alloc (.cells #[.slice sa sn sc] 22))).alloc (Nat.le_refl _) (.cells #[.int .i64 x, .int .i64 y, .bool d] 32)
  have hb3 := (Below.refl ((w.alloc (.cells #[.slice sa sn sc] 22)).alloc (.cells #[.int .i64 x, .int .i64 y, .bool d] 32)).heap.size ((w.alloc (.cells #[.slice sa sn sc] 22)).alloc (.cells #[.int .i64 x, .int .i64 y, .bool d] 32))).alloc (Nat.le_refl _) (.cells #[.bool is] 4)
  have hB3 : Below w.heap.size w w3 := by rw [hw3]; exact hb1.trans ((hb2.trans (hb3.mono hb2.size)).mono hb1.size)
  have hX : BoxD w3 (w.heap.size + 1) (w.heap.size + 1 + 1) w.heap.size (x, y, d) is (.slice sa sn sc) := by
    rw [hw3]
    refine ⟨?_, ?_, ?_⟩
    · have e1 := heap_alloc_new (w.alloc (.cells #[.slice sa sn sc] 22)) (.cells #[.int .i64 x, .int .i64 y, .bool d] 32)
      have e2 := below_block hb3 e1
      simpa using e2
    · have e1 := heap_alloc_new ((w.alloc (.cells #[.slice sa sn sc] 22)).alloc (.cells #[.int .i64 x, .int .i64 y, .bool d] 32)) (.cells #[.bool is] 4)
      simpa using e1
    · exact below_block hb3 (below_block hb2 (heap_alloc_new w _))
  have FORM := Lib.hid (form_ok (saysU L (x, y, d)) (saysF L (x, y, d) is) (w.heap.size + 1) (w.heap.size + 1 + 1) w.heap.size w3 (fun p hp => says_out is up ha p (Or.inl hp)) (fun p hp => says_out is up ha p (Or.inr hp)) (says_eq L (x, y, d) is) (fun V p _ _ hb => say_ok L up x y d is ha (.slice sa sn sc) _ _ _ V ((h.below hB3).below hb) (hX.below hb) p))
  have B3 := Lib.hid hB3
  have HW := Lib.hid hw3
  clear hb1 hb2 hb3 hB3 hX hw3 h up ha
  go_enter Try.func31, Try.ntmps31
  go_wp2_with fail
  rw [← HW.out]
  refine FORM.out.mono ?_
  rintro e w4 ⟨v', er, M, rfl, ha, hat, hb⟩
  have HA := Lib.hid ha
  have AT := Lib.hid hat
  have BB := Lib.hid (B3.out.trans (hb.mono B3.out.size))
  clear ha hat hb
  go_wp2
  go_ret2
  exact ⟨_, _, _, rfl, HA.out, AT.out, BB.out⟩
end Go.Proofs.Ytmfpoagimedhnaa
