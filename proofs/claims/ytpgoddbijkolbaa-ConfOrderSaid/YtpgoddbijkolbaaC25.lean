/- The walk of ConfOrder. Condition: the configuration lies as it came in. Written by gen/gen_c25.py. -/
import Derived.Test.YtpgoddbijkolbaaC26
import Derived.Deep.AppendLies
namespace Go.Proofs.Ytpgoddbijkolbaa
open Go.RowKit
set_option maxRecDepth 100000

/-- The order of windows and of channels turned about. -/
def revC (C : Cf) : Cf := (C.1, C.2.1.reverse, C.2.2.reverse)
theorem take_rev (S : List Row) (j k : Nat) (h : k + j + 1 = S.length) : S.reverse.take (j + 1) = S.reverse.take j ++ [S.getD k []] := by
  have hj : j < S.reverse.length := by rw [List.length_reverse]; omega
  rw [List.take_succ_eq_append_getElem hj, List.getElem_reverse]
  congr 2
  have hk : k < S.length := by omega
  simp only [List.getD_eq_getElem?_getD, List.getElem?_eq_getElem hk, Option.getD_some]
  congr 1
  omega
theorem sum_snoc (f : Row → Int) (T : Row) : ∀ S : List Row, ((S ++ [T]).map f).sum = (S.map f).sum + f T
  | [] => by simp
  | U :: S => by
    have := sum_snoc f T S
    simp only [List.cons_append, List.map_cons, List.sum_cons]
    omega
theorem sum_rev (f : Row → Int) : ∀ S : List Row, (S.reverse.map f).sum = (S.map f).sum
  | [] => rfl
  | T :: S => by
    rw [List.reverse_cons, sum_snoc, sum_rev f S, List.map_cons, List.sum_cons]
    omega
theorem encS_cons (ws : List Nat) (T : Row) (S : List Row) : encS ws (T :: S) = encR ws T ++ encS ws S := by simp [encS]
theorem encS_rev (ws : List Nat) : ∀ S : List Row, (encS ws S.reverse).length = (encS ws S).length
  | [] => rfl
  | T :: S => by
    rw [List.reverse_cons, encS_snoc, encS_cons, List.length_append, List.length_append, encS_rev ws S]
    omega
theorem hasB_rev (W : List Row) : hasB W.reverse = hasB W := by
  funext i
  simp only [hasB, List.any_reverse]
theorem mayB_rev (C : Cf) : mayB (revC C) = mayB C := by
  unfold mayB revC
  simp only [List.length_reverse, List.all_reverse, hasB_rev]
theorem framesC_rev (C : Cf) : framesC (revC C) = framesC C := by
  unfold framesC revC
  simp only [sum_rev]
theorem chk_rev (C : Cf) : chk (revC C) = chk C := by
  unfold chk
  rw [mayB_rev, framesC_rev]
theorem framesA_rev (C : Cf) : framesA (revC C) = framesA C := by
  unfold framesA
  rw [mayB_rev, framesC_rev]
theorem encC_rev (C : Cf) : (encC (revC C)).length = (encC C).length := by
  unfold encC encL revC
  simp only [List.length_append, bytesOf_length, encS_rev]
theorem shape_rev {C : Cf} (h : shape C) : shape (revC C) :=
  ⟨h.1, fun T hT => h.2.1 T (by simpa [revC] using hT), fun T hT => h.2.2 T (by simpa [revC] using hT)⟩
theorem rev_facts {C : Cf} (hs : shape C) (h : chk C = 0) : (putL C == putL (revC C)) = decide (C = revC C) ∧ (putL (revC C)).length = (putL C).length := by
  have h' : chk (revC C) = 0 := (chk_rev C).trans h
  rw [putL_yes h, putL_yes h', encC_rev]
  exact ⟨eq_bytes (mayB_fits hs (chk_zero h).1) (mayB_fits (shape_rev hs) (chk_zero h').1), rfl⟩
theorem frames_of {X : Cf} {v1 v2 v3 : Value} {n : Int} {w : World} (h : CfAt w v1 v2 v3 X ∧ framesA X = n) : Calls Try.prog 15 #[.agg #[v1, v2, v3]] w fun e w' => e = .returned (.int .i64 n) ∧ Below w.heap.size w w' := frames_is v1 v2 v3 X n h.2 w h.1
theorem RowsAt.lenIs {k : Nat} {w : World} {a : Option Addr} {n c : Nat} {S : List Row} (h : RowsAt k w (.slice a n c) S) : n = S.length := by
  obtain ⟨_, _, e, _⟩ := h
  exact (Value.slice.inj e).2.1
/-- What the law carries on: the second configuration. -/
structure OSt (w3 w' : World) (v1 u2 u3 : Value) (S T : List Row) : Prop where
  box : CBox w' w3.heap.size v1 u2 u3
  o2 : w'.ownsRow w3.heap.size 44 2 u2 S.length (flatV S)
  o3 : w'.ownsRow w3.heap.size 46 4 u3 T.length (flatV T)
  below : Below w3.heap.size w3 w'
theorem OSt.step {w3 w1 w2 : World} {v1 u2 u3 : Value} {S T : List Row} (h : OSt w3 w1 v1 u2 u3 S T) (hb : Below w1.heap.size w1 w2) : OSt w3 w2 v1 u2 u3 S T := by
  have hg := grownBy_of_below hb none
  exact ⟨h.box.below hb, h.o2.kept hg (by cases hv : u2.ownBlock <;> simp), h.o3.kept hg (by cases hv : u3.ownBlock <;> simp), h.below.trans (hb.mono h.below.size)⟩
theorem OSt.app2 {w3 w1 w2 : World} {v1 u2 u3 v : Value} {S T : List Row} {R : Row} (h : OSt w3 w1 v1 u2 u3 S T) (ho : w2.ownsRow w3.heap.size 44 2 v (S ++ [R]).length (flatV (S ++ [R]))) (hg : w1.grownBy w2 u2.ownBlock) :
    CBox w2 w3.heap.size v1 u2 u3 ∧ Below w3.heap.size w3 w2 ∧ OSt w3 (w2.setCell ⟨w3.heap.size, 1, none⟩ v) v1 v u3 (S ++ [R]) T := by
  have hX : CBox w2 w3.heap.size v1 u2 u3 := (hg.block _ (lt_of_block h.box) (fun e => own_ne h.o2 h.box (by decide) e.symm)).trans h.box
  have h3 := h.o3.kept hg (own_two h.o3 h.o2 (by decide))
  have hs := grownBy_setCell w2 w3.heap.size 1 v
  have hb := ownBlock_grown h.below h.o2 hg h.below.size
  exact ⟨hX, hb, hX.set1 v, ho.kept hs (Or.inr (own_ne ho hX (by decide))), h3.kept hs (Or.inr (own_ne h3 hX (by decide))), hb.trans (below_of_grownBy hs hb.size (Nat.le_refl _))⟩
theorem OSt.app3 {w3 w1 w2 : World} {v1 u2 u3 v : Value} {S T : List Row} {R : Row} (h : OSt w3 w1 v1 u2 u3 S T) (ho : w2.ownsRow w3.heap.size 46 4 v (T ++ [R]).length (flatV (T ++ [R]))) (hg : w1.grownBy w2 u3.ownBlock) :
    CBox w2 w3.heap.size v1 u2 u3 ∧ Below w3.heap.size w3 w2 ∧ OSt w3 (w2.setCell ⟨w3.heap.size, 2, none⟩ v) v1 u2 v S (T ++ [R]) := by
  have hX : CBox w2 w3.heap.size v1 u2 u3 := (hg.block _ (lt_of_block h.box) (fun e => own_ne h.o3 h.box (by decide) e.symm)).trans h.box
  have h2 := h.o2.kept hg (own_two h.o2 h.o3 (by decide))
  have hs := grownBy_setCell w2 w3.heap.size 2 v
  have hb := ownBlock_grown h.below h.o3 hg h.below.size
  exact ⟨hX, hb, hX.set2 v, h2.kept hs (Or.inr (own_ne h2 hX (by decide))), ho.kept hs (Or.inr (own_ne ho hX (by decide))), hb.trans (below_of_grownBy hs hb.size (Nat.le_refl _))⟩
def ORel1 (w3 : World) (v1 : Value) (W : List Row) (n : Nat) (i : Value) (wr : World) : Prop :=
  ∃ (j : Nat) (u : Value) (S : List Row), i = .int .i64 (j : Int) ∧ j ≤ n ∧ S = W.reverse.take j ∧ OSt w3 wr v1 u (.slice none 0 0) S []
def ORel2 (w3 : World) (v1 u2 : Value) (W H : List Row) (n : Nat) (i : Value) (wr : World) : Prop :=
  ∃ (j : Nat) (u : Value) (S : List Row), i = .int .i64 (j : Int) ∧ j ≤ n ∧ S = H.reverse.take j ∧ OSt w3 wr v1 u2 u W.reverse S

set_option maxHeartbeats 6000000 in
theorem confOrder_walk (v : Value) (C : Cf) (W0 : World) (hC : ConfIn W0 v C) : Calls Try.prog 8 #[v] W0 fun e w' => e = .returned (.bool true) ∧ Below W0.heap.size W0 w' := by
  obtain ⟨ie2, hi2, hbi2⟩ := Option.map_eq_some_iff.1 info_win
  obtain ⟨ie3, hi3, hbi3⟩ := Option.map_eq_some_iff.1 info_chan
  simp only [Prod.mk.injEq] at hbi2 hbi3
  obtain ⟨hi20, hi21, hi22⟩ := hbi2
  obtain ⟨hi30, hi31, hi32⟩ := hbi3
  obtain ⟨aa1, na1, ma1, aa2, na2, ma2, aa3, na3, ma3, rfl⟩ := hC.slices
  obtain ⟨w1, hw1⟩ : ∃ w1, w1 = W0.alloc (.cells #[.slice aa1 na1 ma1, .slice aa2 na2 ma2, .slice aa3 na3 ma3] 26) := ⟨_, rfl⟩
  have hb1 : Below W0.heap.size W0 w1 := by rw [hw1]; exact (Below.refl _ _).alloc (Nat.le_refl _) _
  have K := Lib.hid hb1
  have IA := Lib.hid (hC.below hb1)
  have XA : Hid (CBox w1 W0.heap.size (.slice aa1 na1 ma1) (.slice aa2 na2 ma2) (.slice aa3 na3 ma3)) := Lib.hid (by rw [hw1]; exact CBox.new W0 _ _ _)
  clear hC hb1
  by_cases la : longC C
  · have LA := Lib.hid (long_yes _ C w1 IA.out la)
    clear la
    go_enter Try.func8, Try.ntmps8
    go_wp2_with fail
    rw [← hw1]
    clear hw1
    refine LA.out.mono ?_
    rintro e w2 ⟨rfl, hb⟩
    have K2 := Lib.hid (K.out.trans (hb.mono K.out.size))
    clear hb
    go_wp2_with fail
    refine (awake_conf _).mono ?_
    rintro e w9 ⟨rfl, hb⟩
    have K9 := Lib.hid (K2.out.trans (hb.mono K2.out.size))
    clear hb
    go_wp2
    go_ret
    exact ⟨rfl, K9.out⟩
  have VA := Lib.hid (show VarAt w1 W0.heap.size _ _ _ C from ⟨XA.out, IA.out.at_ la⟩)
  have LA := Lib.hid (long_no _ _ _ C w1 VA.out.cf la)
  have hn2 : na2 ≤ 100 ∧ na3 ≤ 100 := by
    have h2 := VA.out.cf.ws
    have h3 := VA.out.cf.hs
    obtain ⟨_, _, e2, _⟩ := h2
    obtain ⟨_, _, e3, _⟩ := h3
    obtain ⟨-, e2, -⟩ := Value.slice.inj e2
    obtain ⟨-, e3, -⟩ := Value.slice.inj e3
    unfold longC at la
    omega
  obtain ⟨hn2, hn3⟩ := hn2
  clear la IA XA
  obtain ⟨P, W, H⟩ := C
  go_enter Try.func8, Try.ntmps8
  go_wp2_with fail
  rw [← hw1]
  clear hw1
  refine LA.out.mono ?_
  rintro e w3 ⟨rfl, hb⟩
  have VA := Lib.hid (VA.out.below hb)
  have K := Lib.hid (K.out.trans (hb.mono K.out.size))
  clear hb LA
  have x0 := VA.out.box.c0
  have x1 := VA.out.box.c1
  have x2 := VA.out.box.c2
  have OS : Hid (OSt w3 (w3.alloc (.cells #[.slice aa1 na1 ma1, .slice none 0 0, .slice none 0 0] 26)) (.slice aa1 na1 ma1) (.slice none 0 0) (.slice none 0 0) [] []) := Lib.hid ⟨heap_alloc_new _ _, World.ownsRow_nil _ _ _ _, World.ownsRow_nil _ _ _ _, (Below.refl _ _).alloc (Nat.le_refl _) _⟩
  go_wp2_with fail
  clear x0 x1 x2
  go_loopw [4] (fun i wr => ORel1 w3 (.slice aa1 na1 ma1) W na2 i wr) (fun i _ => (na2 - (intOf i).toNat))
  case atStart => exact ⟨0, _, [], rfl, Nat.zero_le _, rfl, OS.out⟩
  case round =>
    obtain ⟨j, u, S, rfl, hj, hS, hO⟩ := hrel
    have O := Lib.hid hO
    have HS := Lib.hid hS
    have VR := Lib.hid (VA.out.below hO.below)
    have x0 := VR.out.box.c0
    have x1 := VR.out.box.c1
    have x2 := VR.out.box.c2
    have z0 := hO.box.c0
    have z1 := hO.box.c1
    have z2 := hO.box.c2
    clear hO hS
    by_cases hlt : j < na2
    · obtain ⟨k, hk⟩ : ∃ k, k + j + 1 = na2 := ⟨na2 - 1 - j, by omega⟩
      have hkn : k < na2 := by omega
      obtain ⟨hSn, b, oo, x, y, rfl, hb3, hrow, e0, e1⟩ := (show RowsAt 2 w3 (.slice aa2 na2 ma2) W from VA.out.cf.ws).two (Below.refl _ _) k hkn
      have SN := Lib.hid hSn
      have ROW := Lib.hid hrow
      have LS : Hid (S.length = j) := Lib.hid (by rw [HS.out, List.length_take, List.length_reverse, ← SN.out]; omega)
      have hk0 : (0 : Int) ≤ (k : Int) := Int.natCast_nonneg _
      have hk1 : (k : Int) < (na2 : Int) := by omega
      have hk2 : (na2 : Int) - 1 - (j : Int) = (k : Int) := by omega
      have d1 : IntKind.i64.wrap ((na2 : Int) - 1) = (na2 : Int) - 1 := IntWalk.i64_in _ (by omega)
      have d2 : IntKind.i64.wrap ((na2 : Int) - 1 - (j : Int)) = (k : Int) := (IntWalk.i64_in _ (by omega)).trans hk2
      have d3 : IntKind.i64.wrap (k : Int) = (k : Int) := IntWalk.i64_in _ (by omega)
      have bS : S.length ≤ 100 := by have := LS.out; omega
      have A3 : Hid (Below wr.heap.size wr ((wr.alloc (.cells #[.int .i64 x, .int .i64 y] 44)).drew)) := Lib.hid ((Below.refl _ _).alloc (Nat.le_refl _) _).drew
      have GA := Lib.hid (O.out.step A3.out)
      have OA := Lib.hid GA.out.o2
      have ZA : Hid (w3.heap.size ≤ ((wr.alloc (.cells #[.int .i64 x, .int .i64 y] 44)).drew).heap.size) := Lib.hid GA.out.below.size
      have NEWS : Hid (∀ (j : Nat) (u : Value), ([.int .i64 x, .int .i64 y] : List Value)[j]? = some u → ((wr.alloc (.cells #[.int .i64 x, .int .i64 y] 44)).drew).cell? ((⟨wr.heap.size, 0, none⟩ : Addr).add j) = some u) := Lib.hid (World.news_of_block (cs := #[.int .i64 x, .int .i64 y]) (t := 44) (fr := (0, 0)) (heap_alloc_new wr _))
      have hw3 : w3.heap.size < wr.heap.size := lt_of_block O.out.box
      have hwv : W0.heap.size < wr.heap.size := lt_of_block VR.out.box
      have CB : Hid (∀ w', Below w3.heap.size w3 w' → w'.cell? ⟨W0.heap.size, 1, none⟩ = some (.slice (some ⟨b, oo, none⟩) na2 ma2) ∧ w'.cell? ⟨b, oo + k * 2, none⟩ = some (.int .i64 x) ∧ w'.cell? ⟨b, oo + k * 2 + 1, none⟩ = some (.int .i64 y)) := Lib.hid (fun w' hb => ⟨(VA.out.below hb).box.c1, (hb.cell (p := ⟨b, oo + k * 2, none⟩) hb3).trans e0, (hb.cell (p := ⟨b, oo + k * 2 + 1, none⟩) hb3).trans e1⟩)
      obtain ⟨q0, g0, g1⟩ := CB.out wr O.out.below
      have SA := Lib.hid (CB.out _ GA.out.below)
      have s0 : ((wr.alloc (.cells #[.int .i64 x, .int .i64 y] 44)).drew).cell? ⟨w3.heap.size, 1, none⟩ = some u := (A3.out.cell (p := ⟨w3.heap.size, 1, none⟩) hw3).trans z1
      clear e0 e1 q0
      clear hSn hrow
      go_wp2_with fail
      refine wp_region_noPanic ?_
      refine wp_region_held_drew (S := fun w' => w'.cell? ⟨W0.heap.size, 1, none⟩ = some (.slice (some ⟨b, oo, none⟩) na2 ma2) ∧ w'.cell? ⟨b, oo + k * 2, none⟩ = some (.int .i64 x) ∧ w'.cell? ⟨b, oo + k * 2 + 1, none⟩ = some (.int .i64 y)) (by kernel_rfl) (by exact CB.out _ O.out.below.drew) (fun hHeld => ?_)
      refine wpAnyH_take (i := 0) (oi := _) (v := .pointer (some ⟨w3.heap.size, 1, none⟩)) rfl (by kernel_rfl) (by kernel_rfl) (by kernel_rfl) (fun _ _ _ h => h) (Or.inl ⟨by rfl, ?_⟩) (by assumption) ?_
      · intro w hSw
        try dsimp only at hSw
        go_split_ands
        go_simp
      try simp only [Act.put, List.getElem_toArray, List.getElem_cons_zero, List.setIfInBounds_toArray, List.set_cons_zero, List.set_cons_succ]
      refine wpAnyH_take (i := 2) (oi := _) (v := .pointer (some ⟨W0.heap.size, 1, none⟩)) rfl (by kernel_rfl) (by kernel_rfl) (by kernel_rfl) (fun _ _ _ h => h) (Or.inl ⟨by rfl, ?_⟩) (by assumption) ?_
      · intro w hSw
        try dsimp only at hSw
        go_split_ands
        go_simp
      try simp only [Act.put, List.getElem_toArray, List.getElem_cons_zero, List.getElem_cons_succ, List.setIfInBounds_toArray, List.set_cons_zero, List.set_cons_succ]
      refine wpAnyH_take (i := 3) (oi := _) (v := .slice (some ⟨b, oo, none⟩) na2 ma2) rfl (by kernel_rfl) (by kernel_rfl) (by kernel_rfl) (fun _ _ _ h => h) (Or.inl ⟨by rfl, ?_⟩) (by assumption) ?_
      · intro w hSw
        try dsimp only at hSw
        go_split_ands
        go_simp
      try simp only [Act.put, List.getElem_toArray, List.getElem_cons_zero, List.getElem_cons_succ, List.setIfInBounds_toArray, List.set_cons_zero, List.set_cons_succ]
      refine wpAnyH_take (i := 4) (oi := _) (v := .pointer (some ⟨W0.heap.size, 1, none⟩)) rfl (by kernel_rfl) (by kernel_rfl) (by kernel_rfl) (fun _ _ _ h => h) (Or.inl ⟨by rfl, ?_⟩) (by assumption) ?_
      · intro w hSw
        try dsimp only at hSw
        go_split_ands
        go_simp
      try simp only [Act.put, List.getElem_toArray, List.getElem_cons_zero, List.getElem_cons_succ, List.setIfInBounds_toArray, List.set_cons_zero, List.set_cons_succ]
      refine wpAnyH_take (i := 5) (oi := _) (v := .slice (some ⟨b, oo, none⟩) na2 ma2) rfl (by kernel_rfl) (by kernel_rfl) (by kernel_rfl) (fun _ _ _ h => h) (Or.inl ⟨by rfl, ?_⟩) (by assumption) ?_
      · intro w hSw
        try dsimp only at hSw
        go_split_ands
        go_simp
      try simp only [Act.put, List.getElem_toArray, List.getElem_cons_zero, List.getElem_cons_succ, List.setIfInBounds_toArray, List.set_cons_zero, List.set_cons_succ]
      refine wpAnyH_take (i := 6) (oi := _) (v := .int .i64 (na2 : Int)) rfl (by kernel_rfl) (by kernel_rfl) (by kernel_rfl) (fun _ _ _ h => h) (Or.inl ⟨by rfl, ?_⟩) (by assumption) ?_
      · intro w hSw
        try dsimp only at hSw
        go_split_ands
        go_simp
      try simp only [Act.put, List.getElem_toArray, List.getElem_cons_zero, List.getElem_cons_succ, List.setIfInBounds_toArray, List.set_cons_zero, List.set_cons_succ]
      refine wpAnyH_take (i := 7) (oi := _) (v := .int .i64 ((na2 : Int) - 1)) rfl (by kernel_rfl) (by kernel_rfl) (by kernel_rfl) (fun _ _ _ h => h) (Or.inl ⟨by rfl, ?_⟩) (by assumption) ?_
      · intro w hSw
        try dsimp only at hSw
        go_split_ands
        go_simp
      try simp only [Act.put, List.getElem_toArray, List.getElem_cons_zero, List.getElem_cons_succ, List.setIfInBounds_toArray, List.set_cons_zero, List.set_cons_succ]
      refine wpAnyH_take (i := 8) (oi := _) (v := .int .i64 (j : Int)) rfl (by kernel_rfl) (by kernel_rfl) (by kernel_rfl) (fun _ _ _ h => h) (Or.inl ⟨by rfl, ?_⟩) (by assumption) ?_
      · intro w hSw
        try dsimp only at hSw
        go_split_ands
        go_simp
      try simp only [Act.put, List.getElem_toArray, List.getElem_cons_zero, List.getElem_cons_succ, List.setIfInBounds_toArray, List.set_cons_zero, List.set_cons_succ]
      refine wpAnyH_take (i := 9) (oi := _) (v := .int .i64 (k : Int)) rfl (by kernel_rfl) (by kernel_rfl) (by kernel_rfl) (fun _ _ _ h => h) (Or.inl ⟨by rfl, ?_⟩) (by assumption) ?_
      · intro w hSw
        try dsimp only at hSw
        go_split_ands
        go_simp
      try simp only [Act.put, List.getElem_toArray, List.getElem_cons_zero, List.getElem_cons_succ, List.setIfInBounds_toArray, List.set_cons_zero, List.set_cons_succ]
      refine wpAnyH_take (i := 10) (oi := _) (v := .pointer (some ⟨b, oo + k * 2, none⟩)) rfl (by kernel_rfl) (by kernel_rfl) (by kernel_rfl) (fun _ _ _ h => h) (Or.inl ⟨by rfl, ?_⟩) (by assumption) ?_
      · intro w hSw
        try dsimp only at hSw
        go_split_ands
        go_simp
      try simp only [Act.put, List.getElem_toArray, List.getElem_cons_zero, List.getElem_cons_succ, List.setIfInBounds_toArray, List.set_cons_zero, List.set_cons_succ]
      refine wpAnyH_take (i := 11) (oi := _) (v := .agg #[.int .i64 x, .int .i64 y]) rfl (by kernel_rfl) (by kernel_rfl) (by kernel_rfl) (fun _ _ _ h => h) (Or.inl ⟨by rfl, ?_⟩) (by assumption) ?_
      · intro w hSw
        try dsimp only at hSw
        go_split_ands
        go_simp
      try simp only [Act.put, List.getElem_toArray, List.getElem_cons_zero, List.getElem_cons_succ, List.setIfInBounds_toArray, List.set_cons_zero, List.set_cons_succ]
      refine wpAnyH_ready (rs := [1, 12]) (by kernel_rfl) (by simp) ?_
      refine AllReadyH.cons (o := _) rfl (fun K hK => ?_) (AllReadyH.cons (o := _) rfl (fun K hK => ?_) AllReadyH.nil)
      · go_simp
        refine hK.out _ _ (by exact CB.out _ O.out.below.drew) (fun hHeld => ?_)
        clear hK K
        try simp only [Act.put, List.getElem_toArray, List.getElem_cons_zero, List.getElem_cons_succ, List.setIfInBounds_toArray, List.set_cons_zero, List.set_cons_succ]
        refine wpAnyH_ready (rs := [12]) (by kernel_rfl) (by simp) ?_
        refine AllReadyH.cons (o := _) rfl (fun K hK => ?_) AllReadyH.nil
        go_simp
        refine hK.out _ _ (by exact SA.out) (fun hHeld => ?_)
        clear hK K
        try simp only [Act.put, List.getElem_toArray, List.getElem_cons_zero, List.getElem_cons_succ, List.setIfInBounds_toArray, List.set_cons_zero, List.set_cons_succ]
        refine wpAnyH_ready (rs := [13]) (by kernel_rfl) (by simp) ?_
        refine AllReadyH.cons (o := _) rfl (fun K hK => ?_) AllReadyH.nil
        refine step_append_lies _ (by rfl) _ _ _ (by rfl) w3.heap.size 44 ie2 _ 2 16 Try.underlying23 hi2 hi20 hi21 hi22 rfl (by omega) u S.length (flatV S) (by rfl) OA.out ⟨wr.heap.size, 0, none⟩ 1 1 [.int .i64 x, .int .i64 y] (by rfl) (by rfl) NEWS.out (by simp [Value.oneCell']) (by omega) (by unfold maxLen; omega) (by omega) ZA.out (wr.heap.size + 1) (by simp) ?_
        intro gg cap w4 ho hg _ _
        obtain ⟨hX, hBX, hG⟩ := GA.out.app2 (R := [x, y]) (by rw [flatV_snoc, List.length_append]; exact ho) hg
        have GB := Lib.hid hG
        have BX := Lib.hid hBX
        have y1 := hX.c1
        have f1 : w4.frozen? ⟨w3.heap.size, 1, none⟩ = false := frozen_of_row w4 _ 1 _ _ hX
        clear ho hg hX hG hBX
        try simp only [Act.put, List.getElem_toArray, List.getElem_cons_zero, List.getElem_cons_succ, List.setIfInBounds_toArray, List.set_cons_zero, List.set_cons_succ]
        refine hK.out _ _ (by exact CB.out _ BX.out) (fun hHeld => ?_)
        clear hK K
        try simp only [Act.put, List.getElem_toArray, List.getElem_cons_zero, List.getElem_cons_succ, List.setIfInBounds_toArray, List.set_cons_zero, List.set_cons_succ]
        refine wpAnyH_take (i := 14) (oi := _) (v := .pointer (some ⟨w3.heap.size, 1, none⟩)) rfl (by kernel_rfl) (by kernel_rfl) (by kernel_rfl) (fun _ _ _ h => h) (Or.inl ⟨by rfl, ?_⟩) (by assumption) ?_
        · intro w hSw
          try dsimp only at hSw
          go_split_ands
          go_simp
        try simp only [Act.put, List.getElem_toArray, List.getElem_cons_zero, List.getElem_cons_succ, List.setIfInBounds_toArray, List.set_cons_zero, List.set_cons_succ]
        refine wpAnyH_ready (rs := [15]) (by kernel_rfl) (by simp) ?_
        refine AllReadyH.cons (o := _) rfl (fun K hK => ?_) AllReadyH.nil
        go_simp
        refine hK.out _ _ (by exact CB.out _ GB.out.below) (fun hHeld => ?_)
        clear hK K
        try simp only [Act.put, List.getElem_toArray, List.getElem_cons_zero, List.getElem_cons_succ, List.setIfInBounds_toArray, List.set_cons_zero, List.set_cons_succ]
        refine wpAnyH_done (by kernel_rfl) ?_ _
        refine NoPanic.normal ?_
        go_wp2_with fail
        go_roundw
        case rel => exact ⟨j + 1, _, S ++ [[x, y]], by go_num, by omega, by rw [take_rev W j k (by rw [← SN.out]; omega), ROW.out, HS.out], GB.out⟩
        case measure => simp [intOf]; omega
      · go_simp
        refine hK.out _ _ (by exact SA.out) (fun hHeld => ?_)
        clear hK K
        try simp only [Act.put, List.getElem_toArray, List.getElem_cons_zero, List.getElem_cons_succ, List.setIfInBounds_toArray, List.set_cons_zero, List.set_cons_succ]
        refine wpAnyH_ready (rs := [1]) (by kernel_rfl) (by simp) ?_
        refine AllReadyH.cons (o := _) rfl (fun K hK => ?_) AllReadyH.nil
        go_simp
        refine hK.out _ _ (by exact SA.out) (fun hHeld => ?_)
        clear hK K
        try simp only [Act.put, List.getElem_toArray, List.getElem_cons_zero, List.getElem_cons_succ, List.setIfInBounds_toArray, List.set_cons_zero, List.set_cons_succ]
        refine wpAnyH_ready (rs := [13]) (by kernel_rfl) (by simp) ?_
        refine AllReadyH.cons (o := _) rfl (fun K hK => ?_) AllReadyH.nil
        refine step_append_lies _ (by rfl) _ _ _ (by rfl) w3.heap.size 44 ie2 _ 2 16 Try.underlying23 hi2 hi20 hi21 hi22 rfl (by omega) u S.length (flatV S) (by rfl) OA.out ⟨wr.heap.size, 0, none⟩ 1 1 [.int .i64 x, .int .i64 y] (by rfl) (by rfl) NEWS.out (by simp [Value.oneCell']) (by omega) (by unfold maxLen; omega) (by omega) ZA.out (wr.heap.size + 1) (by simp) ?_
        intro gg cap w4 ho hg _ _
        obtain ⟨hX, hBX, hG⟩ := GA.out.app2 (R := [x, y]) (by rw [flatV_snoc, List.length_append]; exact ho) hg
        have GB := Lib.hid hG
        have BX := Lib.hid hBX
        have y1 := hX.c1
        have f1 : w4.frozen? ⟨w3.heap.size, 1, none⟩ = false := frozen_of_row w4 _ 1 _ _ hX
        clear ho hg hX hG hBX
        try simp only [Act.put, List.getElem_toArray, List.getElem_cons_zero, List.getElem_cons_succ, List.setIfInBounds_toArray, List.set_cons_zero, List.set_cons_succ]
        refine hK.out _ _ (by exact CB.out _ BX.out) (fun hHeld => ?_)
        clear hK K
        try simp only [Act.put, List.getElem_toArray, List.getElem_cons_zero, List.getElem_cons_succ, List.setIfInBounds_toArray, List.set_cons_zero, List.set_cons_succ]
        refine wpAnyH_take (i := 14) (oi := _) (v := .pointer (some ⟨w3.heap.size, 1, none⟩)) rfl (by kernel_rfl) (by kernel_rfl) (by kernel_rfl) (fun _ _ _ h => h) (Or.inl ⟨by rfl, ?_⟩) (by assumption) ?_
        · intro w hSw
          try dsimp only at hSw
          go_split_ands
          go_simp
        try simp only [Act.put, List.getElem_toArray, List.getElem_cons_zero, List.getElem_cons_succ, List.setIfInBounds_toArray, List.set_cons_zero, List.set_cons_succ]
        refine wpAnyH_ready (rs := [15]) (by kernel_rfl) (by simp) ?_
        refine AllReadyH.cons (o := _) rfl (fun K hK => ?_) AllReadyH.nil
        go_simp
        refine hK.out _ _ (by exact CB.out _ GB.out.below) (fun hHeld => ?_)
        clear hK K
        try simp only [Act.put, List.getElem_toArray, List.getElem_cons_zero, List.getElem_cons_succ, List.setIfInBounds_toArray, List.set_cons_zero, List.set_cons_succ]
        refine wpAnyH_done (by kernel_rfl) ?_ _
        refine NoPanic.normal ?_
        go_wp2_with fail
        go_roundw
        case rel => exact ⟨j + 1, _, S ++ [[x, y]], by go_num, by omega, by rw [take_rev W j k (by rw [← SN.out]; omega), ROW.out, HS.out], GB.out⟩
        case measure => simp [intOf]; omega
    · obtain rfl : na2 = j := by omega
      obtain rfl : S = W.reverse := by rw [HS.out, List.take_of_length_le]; rw [List.length_reverse, ← (show na2 = W.length from RowsAt.lenIs VA.out.cf.ws)]; exact Nat.le_refl _
      obtain ⟨d2, p2, q2, rfl⟩ := own_isSlice O.out.o2
      have ON := Lib.hid O.out
      clear O HS VR hlt
      go_wp2_with fail
      clear x0 x1 x2 z0 z1 z2
      go_loopw [5] (fun i wr => ORel2 w3 (.slice aa1 na1 ma1) (.slice d2 p2 q2) W H na3 i wr) (fun i _ => (na3 - (intOf i).toNat))
      case atStart => exact ⟨0, _, [], rfl, Nat.zero_le _, rfl, ON.out⟩
      case round =>
        obtain ⟨j, u, S, rfl, hj, hS, hO⟩ := hrel
        have O := Lib.hid hO
        have HS := Lib.hid hS
        have VR := Lib.hid (VA.out.below hO.below)
        have x0 := VR.out.box.c0
        have x1 := VR.out.box.c1
        have x2 := VR.out.box.c2
        have z0 := hO.box.c0
        have z1 := hO.box.c1
        have z2 := hO.box.c2
        clear hO hS
        by_cases hlt : j < na3
        · obtain ⟨k, hk⟩ : ∃ k, k + j + 1 = na3 := ⟨na3 - 1 - j, by omega⟩
          have hkn : k < na3 := by omega
          obtain ⟨hSn, b, oo, x, y, z, t, rfl, hb3, hrow, e0, e1, e2, e3⟩ := (show RowsAt 4 w3 (.slice aa3 na3 ma3) H from VA.out.cf.hs).four (Below.refl _ _) k hkn
          have SN := Lib.hid hSn
          have ROW := Lib.hid hrow
          have LS : Hid (S.length = j) := Lib.hid (by rw [HS.out, List.length_take, List.length_reverse, ← SN.out]; omega)
          have hk0 : (0 : Int) ≤ (k : Int) := Int.natCast_nonneg _
          have hk1 : (k : Int) < (na3 : Int) := by omega
          have hk2 : (na3 : Int) - 1 - (j : Int) = (k : Int) := by omega
          have d1 : IntKind.i64.wrap ((na3 : Int) - 1) = (na3 : Int) - 1 := IntWalk.i64_in _ (by omega)
          have d2 : IntKind.i64.wrap ((na3 : Int) - 1 - (j : Int)) = (k : Int) := (IntWalk.i64_in _ (by omega)).trans hk2
          have d3 : IntKind.i64.wrap (k : Int) = (k : Int) := IntWalk.i64_in _ (by omega)
          have bS : S.length ≤ 100 := by have := LS.out; omega
          have A3 : Hid (Below wr.heap.size wr ((wr.alloc (.cells #[.int .i64 x, .int .i64 y, .int .i64 z, .int .i64 t] 46)).drew)) := Lib.hid ((Below.refl _ _).alloc (Nat.le_refl _) _).drew
          have GA := Lib.hid (O.out.step A3.out)
          have OA := Lib.hid GA.out.o3
          have ZA : Hid (w3.heap.size ≤ ((wr.alloc (.cells #[.int .i64 x, .int .i64 y, .int .i64 z, .int .i64 t] 46)).drew).heap.size) := Lib.hid GA.out.below.size
          have NEWS : Hid (∀ (j : Nat) (u : Value), ([.int .i64 x, .int .i64 y, .int .i64 z, .int .i64 t] : List Value)[j]? = some u → ((wr.alloc (.cells #[.int .i64 x, .int .i64 y, .int .i64 z, .int .i64 t] 46)).drew).cell? ((⟨wr.heap.size, 0, none⟩ : Addr).add j) = some u) := Lib.hid (World.news_of_block (cs := #[.int .i64 x, .int .i64 y, .int .i64 z, .int .i64 t]) (t := 46) (fr := (0, 0)) (heap_alloc_new wr _))
          have hw3 : w3.heap.size < wr.heap.size := lt_of_block O.out.box
          have hwv : W0.heap.size < wr.heap.size := lt_of_block VR.out.box
          have CB : Hid (∀ w', Below w3.heap.size w3 w' → w'.cell? ⟨W0.heap.size, 2, none⟩ = some (.slice (some ⟨b, oo, none⟩) na3 ma3) ∧ w'.cell? ⟨b, oo + k * 4, none⟩ = some (.int .i64 x) ∧ w'.cell? ⟨b, oo + k * 4 + 1, none⟩ = some (.int .i64 y) ∧ w'.cell? ⟨b, oo + k * 4 + 2, none⟩ = some (.int .i64 z) ∧ w'.cell? ⟨b, oo + k * 4 + 3, none⟩ = some (.int .i64 t)) := Lib.hid (fun w' hb => ⟨(VA.out.below hb).box.c2, (hb.cell (p := ⟨b, oo + k * 4, none⟩) hb3).trans e0, (hb.cell (p := ⟨b, oo + k * 4 + 1, none⟩) hb3).trans e1, (hb.cell (p := ⟨b, oo + k * 4 + 2, none⟩) hb3).trans e2, (hb.cell (p := ⟨b, oo + k * 4 + 3, none⟩) hb3).trans e3⟩)
          obtain ⟨q0, g0, g1, g2, g3⟩ := CB.out wr O.out.below
          have SA := Lib.hid (CB.out _ GA.out.below)
          have s0 : ((wr.alloc (.cells #[.int .i64 x, .int .i64 y, .int .i64 z, .int .i64 t] 46)).drew).cell? ⟨w3.heap.size, 2, none⟩ = some u := (A3.out.cell (p := ⟨w3.heap.size, 2, none⟩) hw3).trans z2
          clear e0 e1 e2 e3 q0
          clear hSn hrow
          go_wp2_with fail
          refine wp_region_noPanic ?_
          refine wp_region_held_drew (S := fun w' => w'.cell? ⟨W0.heap.size, 2, none⟩ = some (.slice (some ⟨b, oo, none⟩) na3 ma3) ∧ w'.cell? ⟨b, oo + k * 4, none⟩ = some (.int .i64 x) ∧ w'.cell? ⟨b, oo + k * 4 + 1, none⟩ = some (.int .i64 y) ∧ w'.cell? ⟨b, oo + k * 4 + 2, none⟩ = some (.int .i64 z) ∧ w'.cell? ⟨b, oo + k * 4 + 3, none⟩ = some (.int .i64 t)) (by kernel_rfl) (by exact CB.out _ O.out.below.drew) (fun hHeld => ?_)
          refine wpAnyH_take (i := 0) (oi := _) (v := .pointer (some ⟨w3.heap.size, 2, none⟩)) rfl (by kernel_rfl) (by kernel_rfl) (by kernel_rfl) (fun _ _ _ h => h) (Or.inl ⟨by rfl, ?_⟩) (by assumption) ?_
          · intro w hSw
            try dsimp only at hSw
            go_split_ands
            go_simp
          try simp only [Act.put, List.getElem_toArray, List.getElem_cons_zero, List.setIfInBounds_toArray, List.set_cons_zero, List.set_cons_succ]
          refine wpAnyH_take (i := 2) (oi := _) (v := .pointer (some ⟨W0.heap.size, 2, none⟩)) rfl (by kernel_rfl) (by kernel_rfl) (by kernel_rfl) (fun _ _ _ h => h) (Or.inl ⟨by rfl, ?_⟩) (by assumption) ?_
          · intro w hSw
            try dsimp only at hSw
            go_split_ands
            go_simp
          try simp only [Act.put, List.getElem_toArray, List.getElem_cons_zero, List.getElem_cons_succ, List.setIfInBounds_toArray, List.set_cons_zero, List.set_cons_succ]
          refine wpAnyH_take (i := 3) (oi := _) (v := .slice (some ⟨b, oo, none⟩) na3 ma3) rfl (by kernel_rfl) (by kernel_rfl) (by kernel_rfl) (fun _ _ _ h => h) (Or.inl ⟨by rfl, ?_⟩) (by assumption) ?_
          · intro w hSw
            try dsimp only at hSw
            go_split_ands
            go_simp
          try simp only [Act.put, List.getElem_toArray, List.getElem_cons_zero, List.getElem_cons_succ, List.setIfInBounds_toArray, List.set_cons_zero, List.set_cons_succ]
          refine wpAnyH_take (i := 4) (oi := _) (v := .pointer (some ⟨W0.heap.size, 2, none⟩)) rfl (by kernel_rfl) (by kernel_rfl) (by kernel_rfl) (fun _ _ _ h => h) (Or.inl ⟨by rfl, ?_⟩) (by assumption) ?_
          · intro w hSw
            try dsimp only at hSw
            go_split_ands
            go_simp
          try simp only [Act.put, List.getElem_toArray, List.getElem_cons_zero, List.getElem_cons_succ, List.setIfInBounds_toArray, List.set_cons_zero, List.set_cons_succ]
          refine wpAnyH_take (i := 5) (oi := _) (v := .slice (some ⟨b, oo, none⟩) na3 ma3) rfl (by kernel_rfl) (by kernel_rfl) (by kernel_rfl) (fun _ _ _ h => h) (Or.inl ⟨by rfl, ?_⟩) (by assumption) ?_
          · intro w hSw
            try dsimp only at hSw
            go_split_ands
            go_simp
          try simp only [Act.put, List.getElem_toArray, List.getElem_cons_zero, List.getElem_cons_succ, List.setIfInBounds_toArray, List.set_cons_zero, List.set_cons_succ]
          refine wpAnyH_take (i := 6) (oi := _) (v := .int .i64 (na3 : Int)) rfl (by kernel_rfl) (by kernel_rfl) (by kernel_rfl) (fun _ _ _ h => h) (Or.inl ⟨by rfl, ?_⟩) (by assumption) ?_
          · intro w hSw
            try dsimp only at hSw
            go_split_ands
            go_simp
          try simp only [Act.put, List.getElem_toArray, List.getElem_cons_zero, List.getElem_cons_succ, List.setIfInBounds_toArray, List.set_cons_zero, List.set_cons_succ]
          refine wpAnyH_take (i := 7) (oi := _) (v := .int .i64 ((na3 : Int) - 1)) rfl (by kernel_rfl) (by kernel_rfl) (by kernel_rfl) (fun _ _ _ h => h) (Or.inl ⟨by rfl, ?_⟩) (by assumption) ?_
          · intro w hSw
            try dsimp only at hSw
            go_split_ands
            go_simp
          try simp only [Act.put, List.getElem_toArray, List.getElem_cons_zero, List.getElem_cons_succ, List.setIfInBounds_toArray, List.set_cons_zero, List.set_cons_succ]
          refine wpAnyH_take (i := 8) (oi := _) (v := .int .i64 (j : Int)) rfl (by kernel_rfl) (by kernel_rfl) (by kernel_rfl) (fun _ _ _ h => h) (Or.inl ⟨by rfl, ?_⟩) (by assumption) ?_
          · intro w hSw
            try dsimp only at hSw
            go_split_ands
            go_simp
          try simp only [Act.put, List.getElem_toArray, List.getElem_cons_zero, List.getElem_cons_succ, List.setIfInBounds_toArray, List.set_cons_zero, List.set_cons_succ]
          refine wpAnyH_take (i := 9) (oi := _) (v := .int .i64 (k : Int)) rfl (by kernel_rfl) (by kernel_rfl) (by kernel_rfl) (fun _ _ _ h => h) (Or.inl ⟨by rfl, ?_⟩) (by assumption) ?_
          · intro w hSw
            try dsimp only at hSw
            go_split_ands
            go_simp
          try simp only [Act.put, List.getElem_toArray, List.getElem_cons_zero, List.getElem_cons_succ, List.setIfInBounds_toArray, List.set_cons_zero, List.set_cons_succ]
          refine wpAnyH_take (i := 10) (oi := _) (v := .pointer (some ⟨b, oo + k * 4, none⟩)) rfl (by kernel_rfl) (by kernel_rfl) (by kernel_rfl) (fun _ _ _ h => h) (Or.inl ⟨by rfl, ?_⟩) (by assumption) ?_
          · intro w hSw
            try dsimp only at hSw
            go_split_ands
            go_simp
          try simp only [Act.put, List.getElem_toArray, List.getElem_cons_zero, List.getElem_cons_succ, List.setIfInBounds_toArray, List.set_cons_zero, List.set_cons_succ]
          refine wpAnyH_take (i := 11) (oi := _) (v := .agg #[.int .i64 x, .int .i64 y, .int .i64 z, .int .i64 t]) rfl (by kernel_rfl) (by kernel_rfl) (by kernel_rfl) (fun _ _ _ h => h) (Or.inl ⟨by rfl, ?_⟩) (by assumption) ?_
          · intro w hSw
            try dsimp only at hSw
            go_split_ands
            go_simp
          try simp only [Act.put, List.getElem_toArray, List.getElem_cons_zero, List.getElem_cons_succ, List.setIfInBounds_toArray, List.set_cons_zero, List.set_cons_succ]
          refine wpAnyH_ready (rs := [1, 12]) (by kernel_rfl) (by simp) ?_
          refine AllReadyH.cons (o := _) rfl (fun K hK => ?_) (AllReadyH.cons (o := _) rfl (fun K hK => ?_) AllReadyH.nil)
          · go_simp
            refine hK.out _ _ (by exact CB.out _ O.out.below.drew) (fun hHeld => ?_)
            clear hK K
            try simp only [Act.put, List.getElem_toArray, List.getElem_cons_zero, List.getElem_cons_succ, List.setIfInBounds_toArray, List.set_cons_zero, List.set_cons_succ]
            refine wpAnyH_ready (rs := [12]) (by kernel_rfl) (by simp) ?_
            refine AllReadyH.cons (o := _) rfl (fun K hK => ?_) AllReadyH.nil
            go_simp
            refine hK.out _ _ (by exact SA.out) (fun hHeld => ?_)
            clear hK K
            try simp only [Act.put, List.getElem_toArray, List.getElem_cons_zero, List.getElem_cons_succ, List.setIfInBounds_toArray, List.set_cons_zero, List.set_cons_succ]
            refine wpAnyH_ready (rs := [13]) (by kernel_rfl) (by simp) ?_
            refine AllReadyH.cons (o := _) rfl (fun K hK => ?_) AllReadyH.nil
            refine step_append_lies _ (by rfl) _ _ _ (by rfl) w3.heap.size 46 ie3 _ 4 32 Try.underlying24 hi3 hi30 hi31 hi32 rfl (by omega) u S.length (flatV S) (by rfl) OA.out ⟨wr.heap.size, 0, none⟩ 1 1 [.int .i64 x, .int .i64 y, .int .i64 z, .int .i64 t] (by rfl) (by rfl) NEWS.out (by simp [Value.oneCell']) (by omega) (by unfold maxLen; omega) (by omega) ZA.out (wr.heap.size + 1) (by simp) ?_
            intro gg cap w4 ho hg _ _
            obtain ⟨hX, hBX, hG⟩ := GA.out.app3 (R := [x, y, z, t]) (by rw [flatV_snoc, List.length_append]; exact ho) hg
            have GB := Lib.hid hG
            have BX := Lib.hid hBX
            have y1 := hX.c2
            have f1 : w4.frozen? ⟨w3.heap.size, 2, none⟩ = false := frozen_of_row w4 _ 2 _ _ hX
            clear ho hg hX hG hBX
            try simp only [Act.put, List.getElem_toArray, List.getElem_cons_zero, List.getElem_cons_succ, List.setIfInBounds_toArray, List.set_cons_zero, List.set_cons_succ]
            refine hK.out _ _ (by exact CB.out _ BX.out) (fun hHeld => ?_)
            clear hK K
            try simp only [Act.put, List.getElem_toArray, List.getElem_cons_zero, List.getElem_cons_succ, List.setIfInBounds_toArray, List.set_cons_zero, List.set_cons_succ]
            refine wpAnyH_take (i := 14) (oi := _) (v := .pointer (some ⟨w3.heap.size, 2, none⟩)) rfl (by kernel_rfl) (by kernel_rfl) (by kernel_rfl) (fun _ _ _ h => h) (Or.inl ⟨by rfl, ?_⟩) (by assumption) ?_
            · intro w hSw
              try dsimp only at hSw
              go_split_ands
              go_simp
            try simp only [Act.put, List.getElem_toArray, List.getElem_cons_zero, List.getElem_cons_succ, List.setIfInBounds_toArray, List.set_cons_zero, List.set_cons_succ]
            refine wpAnyH_ready (rs := [15]) (by kernel_rfl) (by simp) ?_
            refine AllReadyH.cons (o := _) rfl (fun K hK => ?_) AllReadyH.nil
            go_simp
            refine hK.out _ _ (by exact CB.out _ GB.out.below) (fun hHeld => ?_)
            clear hK K
            try simp only [Act.put, List.getElem_toArray, List.getElem_cons_zero, List.getElem_cons_succ, List.setIfInBounds_toArray, List.set_cons_zero, List.set_cons_succ]
            refine wpAnyH_done (by kernel_rfl) ?_ _
            refine NoPanic.normal ?_
            go_wp2_with fail
            go_roundw
            case rel => exact ⟨j + 1, _, S ++ [[x, y, z, t]], by go_num, by omega, by rw [take_rev H j k (by rw [← SN.out]; omega), ROW.out, HS.out], GB.out⟩
            case measure => simp [intOf]; omega
          · go_simp
            refine hK.out _ _ (by exact SA.out) (fun hHeld => ?_)
            clear hK K
            try simp only [Act.put, List.getElem_toArray, List.getElem_cons_zero, List.getElem_cons_succ, List.setIfInBounds_toArray, List.set_cons_zero, List.set_cons_succ]
            refine wpAnyH_ready (rs := [1]) (by kernel_rfl) (by simp) ?_
            refine AllReadyH.cons (o := _) rfl (fun K hK => ?_) AllReadyH.nil
            go_simp
            refine hK.out _ _ (by exact SA.out) (fun hHeld => ?_)
            clear hK K
            try simp only [Act.put, List.getElem_toArray, List.getElem_cons_zero, List.getElem_cons_succ, List.setIfInBounds_toArray, List.set_cons_zero, List.set_cons_succ]
            refine wpAnyH_ready (rs := [13]) (by kernel_rfl) (by simp) ?_
            refine AllReadyH.cons (o := _) rfl (fun K hK => ?_) AllReadyH.nil
            refine step_append_lies _ (by rfl) _ _ _ (by rfl) w3.heap.size 46 ie3 _ 4 32 Try.underlying24 hi3 hi30 hi31 hi32 rfl (by omega) u S.length (flatV S) (by rfl) OA.out ⟨wr.heap.size, 0, none⟩ 1 1 [.int .i64 x, .int .i64 y, .int .i64 z, .int .i64 t] (by rfl) (by rfl) NEWS.out (by simp [Value.oneCell']) (by omega) (by unfold maxLen; omega) (by omega) ZA.out (wr.heap.size + 1) (by simp) ?_
            intro gg cap w4 ho hg _ _
            obtain ⟨hX, hBX, hG⟩ := GA.out.app3 (R := [x, y, z, t]) (by rw [flatV_snoc, List.length_append]; exact ho) hg
            have GB := Lib.hid hG
            have BX := Lib.hid hBX
            have y1 := hX.c2
            have f1 : w4.frozen? ⟨w3.heap.size, 2, none⟩ = false := frozen_of_row w4 _ 2 _ _ hX
            clear ho hg hX hG hBX
            try simp only [Act.put, List.getElem_toArray, List.getElem_cons_zero, List.getElem_cons_succ, List.setIfInBounds_toArray, List.set_cons_zero, List.set_cons_succ]
            refine hK.out _ _ (by exact CB.out _ BX.out) (fun hHeld => ?_)
            clear hK K
            try simp only [Act.put, List.getElem_toArray, List.getElem_cons_zero, List.getElem_cons_succ, List.setIfInBounds_toArray, List.set_cons_zero, List.set_cons_succ]
            refine wpAnyH_take (i := 14) (oi := _) (v := .pointer (some ⟨w3.heap.size, 2, none⟩)) rfl (by kernel_rfl) (by kernel_rfl) (by kernel_rfl) (fun _ _ _ h => h) (Or.inl ⟨by rfl, ?_⟩) (by assumption) ?_
            · intro w hSw
              try dsimp only at hSw
              go_split_ands
              go_simp
            try simp only [Act.put, List.getElem_toArray, List.getElem_cons_zero, List.getElem_cons_succ, List.setIfInBounds_toArray, List.set_cons_zero, List.set_cons_succ]
            refine wpAnyH_ready (rs := [15]) (by kernel_rfl) (by simp) ?_
            refine AllReadyH.cons (o := _) rfl (fun K hK => ?_) AllReadyH.nil
            go_simp
            refine hK.out _ _ (by exact CB.out _ GB.out.below) (fun hHeld => ?_)
            clear hK K
            try simp only [Act.put, List.getElem_toArray, List.getElem_cons_zero, List.getElem_cons_succ, List.setIfInBounds_toArray, List.set_cons_zero, List.set_cons_succ]
            refine wpAnyH_done (by kernel_rfl) ?_ _
            refine NoPanic.normal ?_
            go_wp2_with fail
            go_roundw
            case rel => exact ⟨j + 1, _, S ++ [[x, y, z, t]], by go_num, by omega, by rw [take_rev H j k (by rw [← SN.out]; omega), ROW.out, HS.out], GB.out⟩
            case measure => simp [intOf]; omega
        · obtain rfl : na3 = j := by omega
          obtain rfl : S = H.reverse := by rw [HS.out, List.take_of_length_le]; rw [List.length_reverse, ← (show na3 = H.length from RowsAt.lenIs VA.out.cf.hs)]; exact Nat.le_refl _
          obtain ⟨d3, p3, q3, rfl⟩ := own_isSlice O.out.o3
          have VD : Hid (VarAt wr w3.heap.size (.slice aa1 na1 ma1) (.slice d2 p2 q2) (.slice d3 p3 q3) (revC (P, W, H))) := Lib.hid ⟨O.out.box, ⟨VR.out.cf.ps, own_rows (S := W.reverse) O.out.o2 (fun T hT => VA.out.cf.shape.2.1 T (List.mem_reverse.1 hT)) (by rw [List.length_reverse, ← (show na2 = W.length from RowsAt.lenIs VA.out.cf.ws)]; omega), own_rows (S := H.reverse) O.out.o3 (fun T hT => VA.out.cf.shape.2.2 T (List.mem_reverse.1 hT)) (by rw [List.length_reverse, ← (show na3 = H.length from RowsAt.lenIs VA.out.cf.hs)]; omega)⟩⟩
          have VC := VR
          have SH := Lib.hid VA.out.cf.shape
          have K := Lib.hid (K.out.trans (O.out.below.mono K.out.size))
          clear O HS VR ON VA OS hlt
          generalize (P, W, H) = C at *
          obtain ⟨l, hl⟩ : ∃ l, putL C = l := ⟨_, rfl⟩
          obtain ⟨m, hm⟩ : ∃ l, putL (revC C) = l := ⟨_, rfl⟩
          obtain ⟨r, hr⟩ : ∃ b, decide (C = revC C) = b := ⟨_, rfl⟩
          obtain ⟨f, hf⟩ : ∃ n, framesA C = n := ⟨_, rfl⟩
          have PL := Lib.hid hl
          have PM := Lib.hid hm
          have PS := Lib.hid hr
          have PF := Lib.hid hf
          have PG := Lib.hid ((framesA_rev C).trans hf)
          have ef : (f == f) = true := by simp
          by_cases hk : chk C = 0
          · have hq := rev_facts SH.out hk
            rw [hl, hm, hr] at hq
            obtain ⟨heq, hlen⟩ := hq
            have er : (r == r) = true := by simp
            have PC := Lib.hid hk
            have PD := Lib.hid ((chk_rev C).trans hk)
            clear hk hl hm hr hf
            go_wp2_with fail
            refine (put_is _ _ _ C l 0 PL.out PC.out _ VC.out.cf).mono ?_
            rintro e w5 ⟨rfl, hb⟩
            have VC := Lib.hid (VC.out.below hb)
            have VD := Lib.hid (VD.out.below hb)
            have K := Lib.hid (K.out.trans (hb.mono K.out.size))
            clear hb
            have x0 := VC.out.box.c0
            have x1 := VC.out.box.c1
            have x2 := VC.out.box.c2
            have z0 := VD.out.box.c0
            have z1 := VD.out.box.c1
            have z2 := VD.out.box.c2
            go_wp2_with fail
            refine (put_is _ _ _ (revC C) m 0 PM.out PD.out _ VD.out.cf).mono ?_
            rintro e w6 ⟨rfl, hb⟩
            have VC := Lib.hid (VC.out.below hb)
            have VD := Lib.hid (VD.out.below hb)
            have K := Lib.hid (K.out.trans (hb.mono K.out.size))
            clear hb
            have x0 := VC.out.box.c0
            have x1 := VC.out.box.c1
            have x2 := VC.out.box.c2
            have z0 := VD.out.box.c0
            have z1 := VD.out.box.c1
            have z2 := VD.out.box.c2
            go_wp2_with fail
            have VC := Lib.hid (VC.out.below (Below.refl _ _).drew)
            have VD := Lib.hid (VD.out.below (Below.refl _ _).drew)
            have K := Lib.hid K.out.drew
            go_region_held3 (fun w' => (w'.cell? ⟨W0.heap.size, 0, none⟩ = some (.slice aa1 na1 ma1) ∧ w'.cell? ⟨W0.heap.size, 1, none⟩ = some (.slice aa2 na2 ma2) ∧ w'.cell? ⟨W0.heap.size, 2, none⟩ = some (.slice aa3 na3 ma3)) ∧ (w'.cell? ⟨w3.heap.size, 0, none⟩ = some (.slice aa1 na1 ma1) ∧ w'.cell? ⟨w3.heap.size, 1, none⟩ = some (.slice d2 p2 q2) ∧ w'.cell? ⟨w3.heap.size, 2, none⟩ = some (.slice d3 p3 q3))) (go_keep)
              (first
                | (go_at_call 15; refine (frames_of (n := f) (by first | exact ⟨VC.out.cf, PF.out⟩ | exact ⟨VD.out.cf, PG.out⟩)).mono ?_; rintro e w9 ⟨rfl, hb⟩; have VC := Lib.hid (VC.out.below hb); have VD := Lib.hid (VD.out.below hb); have K := Lib.hid (K.out.trans (hb.mono K.out.size)); clear hb; have x0 := VC.out.box.c0; have x1 := VC.out.box.c1; have x2 := VC.out.box.c2; have z0 := VD.out.box.c0; have z1 := VD.out.box.c1; have z2 := VD.out.box.c2)
                | (go_at_call 17; refine (same_is _ _ _ _ _ _ C (revC C) r PS.out _ VC.out.cf VD.out.cf).mono ?_; rintro e w9 ⟨rfl, hb⟩; have VC := Lib.hid (VC.out.below hb); have VD := Lib.hid (VD.out.below hb); have K := Lib.hid (K.out.trans (hb.mono K.out.size)); clear hb; have x0 := VC.out.box.c0; have x1 := VC.out.box.c1; have x2 := VC.out.box.c2; have z0 := VD.out.box.c0; have z1 := VD.out.box.c1; have z2 := VD.out.box.c2)
                | (go_at_call 10; refine (awake_conf _).mono ?_; rintro e w9 ⟨rfl, hb⟩; have VC := Lib.hid (VC.out.below hb); have VD := Lib.hid (VD.out.below hb); have K := Lib.hid (K.out.trans (hb.mono K.out.size)); clear hb; have x0 := VC.out.box.c0; have x1 := VC.out.box.c1; have x2 := VC.out.box.c2; have z0 := VD.out.box.c0; have z1 := VD.out.box.c1; have z2 := VD.out.box.c2))
            go_wp2
            go_ret
            exact ⟨rfl, K.out⟩
          · obtain ⟨c, hc⟩ : ∃ c, chk C = c := ⟨_, rfl⟩
            rw [hc] at hk
            have hcb : (c != 0) = true := by simpa using hk
            have hcc : (c == 0) = false := by simpa using hk
            have hcd : decide (c = 0) = false := decide_eq_false hk
            have ec : (c == c) = true := by simp
            have PC := Lib.hid hc
            have PD := Lib.hid ((chk_rev C).trans hc)
            clear hl hm hr hf hc
            go_wp2_with fail
            refine (put_is _ _ _ C l c PL.out PC.out _ VC.out.cf).mono ?_
            rintro e w5 ⟨rfl, hb⟩
            have VC := Lib.hid (VC.out.below hb)
            have VD := Lib.hid (VD.out.below hb)
            have K := Lib.hid (K.out.trans (hb.mono K.out.size))
            clear hb
            have x0 := VC.out.box.c0
            have x1 := VC.out.box.c1
            have x2 := VC.out.box.c2
            have z0 := VD.out.box.c0
            have z1 := VD.out.box.c1
            have z2 := VD.out.box.c2
            go_wp2_with fail
            refine (put_is _ _ _ (revC C) m c PM.out PD.out _ VD.out.cf).mono ?_
            rintro e w6 ⟨rfl, hb⟩
            have VC := Lib.hid (VC.out.below hb)
            have VD := Lib.hid (VD.out.below hb)
            have K := Lib.hid (K.out.trans (hb.mono K.out.size))
            clear hb
            have x0 := VC.out.box.c0
            have x1 := VC.out.box.c1
            have x2 := VC.out.box.c2
            have z0 := VD.out.box.c0
            have z1 := VD.out.box.c1
            have z2 := VD.out.box.c2
            go_wp2_with fail
            have VC := Lib.hid (VC.out.below (Below.refl _ _).drew)
            have VD := Lib.hid (VD.out.below (Below.refl _ _).drew)
            have K := Lib.hid K.out.drew
            refine wp_region_noPanic ?_
            refine wp_region_held_drew (S := fun w' => (w'.cell? ⟨W0.heap.size, 0, none⟩ = some (.slice aa1 na1 ma1) ∧ w'.cell? ⟨W0.heap.size, 1, none⟩ = some (.slice aa2 na2 ma2) ∧ w'.cell? ⟨W0.heap.size, 2, none⟩ = some (.slice aa3 na3 ma3)) ∧ (w'.cell? ⟨w3.heap.size, 0, none⟩ = some (.slice aa1 na1 ma1) ∧ w'.cell? ⟨w3.heap.size, 1, none⟩ = some (.slice d2 p2 q2) ∧ w'.cell? ⟨w3.heap.size, 2, none⟩ = some (.slice d3 p3 q3))) (by kernel_rfl) (by exact ⟨⟨VC.out.box.c0, VC.out.box.c1, VC.out.box.c2⟩, VD.out.box.c0, VD.out.box.c1, VD.out.box.c2⟩) (fun hHeld => ?_)
            refine wpAnyH_take (i := 0) (oi := _) (v := .int .i64 c) rfl (by kernel_rfl) (by kernel_rfl) (by kernel_rfl) (fun _ _ _ h => h) (Or.inl ⟨by rfl, ?_⟩) (by assumption) ?_
            · intro w hSw
              try dsimp only at hSw
              go_split_ands
              go_simp
            try simp only [Act.put, List.getElem_toArray, List.getElem_cons_zero, List.setIfInBounds_toArray, List.set_cons_zero, List.set_cons_succ]
            refine wpAnyH_take (i := 1) (oi := _) (v := .int .i64 c) rfl (by kernel_rfl) (by kernel_rfl) (by kernel_rfl) (fun _ _ _ h => h) (Or.inl ⟨by rfl, ?_⟩) (by assumption) ?_
            · intro w hSw
              try dsimp only at hSw
              go_split_ands
              go_simp
            try simp only [Act.put, List.getElem_toArray, List.getElem_cons_zero, List.getElem_cons_succ, List.setIfInBounds_toArray, List.set_cons_zero, List.set_cons_succ]
            refine wpAnyH_take (i := 2) (oi := _) (v := .bool true) rfl (by kernel_rfl) (by kernel_rfl) (by kernel_rfl) (fun _ _ _ h => h) (Or.inl ⟨by rfl, ?_⟩) (by assumption) ?_
            · intro w hSw
              try dsimp only at hSw
              go_split_ands
              go_simp
            try simp only [Act.put, List.getElem_toArray, List.getElem_cons_zero, List.getElem_cons_succ, List.setIfInBounds_toArray, List.set_cons_zero, List.set_cons_succ]
            refine wpAnyH_take (i := 3) (oi := _) (v := .bool true) rfl (by kernel_rfl) (by kernel_rfl) (by kernel_rfl) (fun _ _ _ h => h) (Or.inl ⟨by rfl, ?_⟩) (by assumption) ?_
            · intro w hSw
              try dsimp only at hSw
              go_split_ands
              go_simp
            try simp only [Act.put, List.getElem_toArray, List.getElem_cons_zero, List.getElem_cons_succ, List.setIfInBounds_toArray, List.set_cons_zero, List.set_cons_succ]
            refine wpAnyH_take (i := 4) (oi := _) (v := .agg #[.slice aa1 na1 ma1, .slice aa2 na2 ma2, .slice aa3 na3 ma3]) rfl (by kernel_rfl) (by kernel_rfl) (by kernel_rfl) (fun _ _ _ h => h) (Or.inl ⟨by rfl, ?_⟩) (by assumption) ?_
            · intro w hSw
              try dsimp only at hSw
              go_split_ands
              go_simp
            try simp only [Act.put, List.getElem_toArray, List.getElem_cons_zero, List.getElem_cons_succ, List.setIfInBounds_toArray, List.set_cons_zero, List.set_cons_succ]
            refine wpAnyH_take (i := 6) (oi := _) (v := .agg #[.slice aa1 na1 ma1, .slice d2 p2 q2, .slice d3 p3 q3]) rfl (by kernel_rfl) (by kernel_rfl) (by kernel_rfl) (fun _ _ _ h => h) (Or.inl ⟨by rfl, ?_⟩) (by assumption) ?_
            · intro w hSw
              try dsimp only at hSw
              go_split_ands
              go_simp
            try simp only [Act.put, List.getElem_toArray, List.getElem_cons_zero, List.getElem_cons_succ, List.setIfInBounds_toArray, List.set_cons_zero, List.set_cons_succ]
            refine wpAnyH_ready (rs := [5]) (by kernel_rfl) (by simp) ?_
            refine AllReadyH.cons (o := _) rfl (fun K1 hK => ?_) AllReadyH.nil
            clear hHeld
            go_simp
            refine (frames_of (X := C) (n := f) ⟨VC.out.cf, PF.out⟩).mono ?_
            rintro e w9 ⟨rfl, hb⟩
            have VC := Lib.hid (VC.out.below hb)
            have VD := Lib.hid (VD.out.below hb)
            have K := Lib.hid (K.out.trans (hb.mono K.out.size))
            clear hb
            refine hK.out _ _ (by exact ⟨⟨VC.out.box.c0, VC.out.box.c1, VC.out.box.c2⟩, VD.out.box.c0, VD.out.box.c1, VD.out.box.c2⟩) (fun hHeld => ?_)
            clear hK K1
            try simp only [Act.put, List.getElem_toArray, List.getElem_cons_zero, List.getElem_cons_succ, List.setIfInBounds_toArray, List.set_cons_zero, List.set_cons_succ]
            refine wpAnyH_ready (rs := [7]) (by kernel_rfl) (by simp) ?_
            refine AllReadyH.cons (o := _) rfl (fun K1 hK => ?_) AllReadyH.nil
            clear hHeld
            go_simp
            refine (frames_of (X := revC C) (n := f) ⟨VD.out.cf, PG.out⟩).mono ?_
            rintro e w9 ⟨rfl, hb⟩
            have VC := Lib.hid (VC.out.below hb)
            have VD := Lib.hid (VD.out.below hb)
            have K := Lib.hid (K.out.trans (hb.mono K.out.size))
            clear hb
            refine hK.out _ _ (by exact ⟨⟨VC.out.box.c0, VC.out.box.c1, VC.out.box.c2⟩, VD.out.box.c0, VD.out.box.c1, VD.out.box.c2⟩) (fun hHeld => ?_)
            clear hK K1
            try simp only [Act.put, List.getElem_toArray, List.getElem_cons_zero, List.getElem_cons_succ, List.setIfInBounds_toArray, List.set_cons_zero, List.set_cons_succ]
            refine wpAnyH_take (i := 8) (oi := _) (v := .bool true) rfl (by kernel_rfl) (by kernel_rfl) (by kernel_rfl) (fun _ _ _ h => h) (Or.inl ⟨by rfl, ?_⟩) (by assumption) ?_
            · intro w hSw
              try dsimp only at hSw
              go_split_ands
              go_simp
            try simp only [Act.put, List.getElem_toArray, List.getElem_cons_zero, List.getElem_cons_succ, List.setIfInBounds_toArray, List.set_cons_zero, List.set_cons_succ]
            refine wpAnyH_take (i := 9) (oi := _) (v := .bool true) rfl (by kernel_rfl) (by kernel_rfl) (by kernel_rfl) (fun _ _ _ h => h) (Or.inl ⟨by rfl, ?_⟩) (by assumption) ?_
            · intro w hSw
              try dsimp only at hSw
              go_split_ands
              go_simp
            try simp only [Act.put, List.getElem_toArray, List.getElem_cons_zero, List.getElem_cons_succ, List.setIfInBounds_toArray, List.set_cons_zero, List.set_cons_succ]
            refine wpAnyH_take (i := 10) (oi := _) (v := .bool true) rfl (by kernel_rfl) (by kernel_rfl) (by kernel_rfl) (fun _ _ _ h => h) (Or.inl ⟨by rfl, ?_⟩) (by assumption) ?_
            · intro w hSw
              try dsimp only at hSw
              go_split_ands
              go_simp
            try simp only [Act.put, List.getElem_toArray, List.getElem_cons_zero, List.getElem_cons_succ, List.setIfInBounds_toArray, List.set_cons_zero, List.set_cons_succ]
            refine wpAnyH_take (i := 11) (oi := _) (v := .int .i64 c) rfl (by kernel_rfl) (by kernel_rfl) (by kernel_rfl) (fun _ _ _ h => h) (Or.inl ⟨by rfl, ?_⟩) (by assumption) ?_
            · intro w hSw
              try dsimp only at hSw
              go_split_ands
              go_simp
            try simp only [Act.put, List.getElem_toArray, List.getElem_cons_zero, List.getElem_cons_succ, List.setIfInBounds_toArray, List.set_cons_zero, List.set_cons_succ]
            refine wpAnyH_take (i := 12) (oi := _) (v := .bool true) rfl (by kernel_rfl) (by kernel_rfl) (by kernel_rfl) (fun _ _ _ h => h) (Or.inl ⟨by rfl, ?_⟩) (by assumption) ?_
            · intro w hSw
              try dsimp only at hSw
              go_split_ands
              go_simp
            try simp only [Act.put, List.getElem_toArray, List.getElem_cons_zero, List.getElem_cons_succ, List.setIfInBounds_toArray, List.set_cons_zero, List.set_cons_succ]
            refine wpAnyH_take (i := 13) (oi := _) (v := .bool true) rfl (by kernel_rfl) (by kernel_rfl) (by kernel_rfl) (fun _ _ _ h => h) (Or.inl ⟨by rfl, ?_⟩) (by assumption) ?_
            · intro w hSw
              try dsimp only at hSw
              go_split_ands
              go_simp
            try simp only [Act.put, List.getElem_toArray, List.getElem_cons_zero, List.getElem_cons_succ, List.setIfInBounds_toArray, List.set_cons_zero, List.set_cons_succ]
            refine wpAnyH_take (i := 14) (oi := _) (v := undef) rfl (by kernel_rfl) (by kernel_rfl) (by kernel_rfl) (fun _ _ _ h => h) (Or.inr ⟨by rfl, rfl⟩) (by assumption) ?_
            try simp only [Act.put, List.getElem_toArray, List.getElem_cons_zero, List.getElem_cons_succ, List.setIfInBounds_toArray, List.set_cons_zero, List.set_cons_succ]
            refine wpAnyH_take (i := 15) (oi := _) (v := undef) rfl (by kernel_rfl) (by kernel_rfl) (by kernel_rfl) (fun _ _ _ h => h) (Or.inr ⟨by rfl, rfl⟩) (by assumption) ?_
            try simp only [Act.put, List.getElem_toArray, List.getElem_cons_zero, List.getElem_cons_succ, List.setIfInBounds_toArray, List.set_cons_zero, List.set_cons_succ]
            refine wpAnyH_take (i := 16) (oi := _) (v := undef) rfl (by kernel_rfl) (by kernel_rfl) (by kernel_rfl) (fun _ _ _ h => h) (Or.inr ⟨by rfl, rfl⟩) (by assumption) ?_
            try simp only [Act.put, List.getElem_toArray, List.getElem_cons_zero, List.getElem_cons_succ, List.setIfInBounds_toArray, List.set_cons_zero, List.set_cons_succ]
            refine wpAnyH_take (i := 17) (oi := _) (v := undef) rfl (by kernel_rfl) (by kernel_rfl) (by kernel_rfl) (fun _ _ _ h => h) (Or.inr ⟨by rfl, rfl⟩) (by assumption) ?_
            try simp only [Act.put, List.getElem_toArray, List.getElem_cons_zero, List.getElem_cons_succ, List.setIfInBounds_toArray, List.set_cons_zero, List.set_cons_succ]
            refine wpAnyH_take (i := 18) (oi := _) (v := undef) rfl (by kernel_rfl) (by kernel_rfl) (by kernel_rfl) (fun _ _ _ h => h) (Or.inr ⟨by rfl, rfl⟩) (by assumption) ?_
            try simp only [Act.put, List.getElem_toArray, List.getElem_cons_zero, List.getElem_cons_succ, List.setIfInBounds_toArray, List.set_cons_zero, List.set_cons_succ]
            refine wpAnyH_take (i := 19) (oi := _) (v := undef) rfl (by kernel_rfl) (by kernel_rfl) (by kernel_rfl) (fun _ _ _ h => h) (Or.inr ⟨by rfl, rfl⟩) (by assumption) ?_
            try simp only [Act.put, List.getElem_toArray, List.getElem_cons_zero, List.getElem_cons_succ, List.setIfInBounds_toArray, List.set_cons_zero, List.set_cons_succ]
            refine wpAnyH_take (i := 20) (oi := _) (v := undef) rfl (by kernel_rfl) (by kernel_rfl) (by kernel_rfl) (fun _ _ _ h => h) (Or.inr ⟨by rfl, rfl⟩) (by assumption) ?_
            try simp only [Act.put, List.getElem_toArray, List.getElem_cons_zero, List.getElem_cons_succ, List.setIfInBounds_toArray, List.set_cons_zero, List.set_cons_succ]
            refine wpAnyH_take (i := 21) (oi := _) (v := undef) rfl (by kernel_rfl) (by kernel_rfl) (by kernel_rfl) (fun _ _ _ h => h) (Or.inr ⟨by rfl, rfl⟩) (by assumption) ?_
            try simp only [Act.put, List.getElem_toArray, List.getElem_cons_zero, List.getElem_cons_succ, List.setIfInBounds_toArray, List.set_cons_zero, List.set_cons_succ]
            refine wpAnyH_take (i := 22) (oi := _) (v := undef) rfl (by kernel_rfl) (by kernel_rfl) (by kernel_rfl) (fun _ _ _ h => h) (Or.inr ⟨by rfl, rfl⟩) (by assumption) ?_
            try simp only [Act.put, List.getElem_toArray, List.getElem_cons_zero, List.getElem_cons_succ, List.setIfInBounds_toArray, List.set_cons_zero, List.set_cons_succ]
            refine wpAnyH_take (i := 23) (oi := _) (v := undef) rfl (by kernel_rfl) (by kernel_rfl) (by kernel_rfl) (fun _ _ _ h => h) (Or.inr ⟨by rfl, rfl⟩) (by assumption) ?_
            try simp only [Act.put, List.getElem_toArray, List.getElem_cons_zero, List.getElem_cons_succ, List.setIfInBounds_toArray, List.set_cons_zero, List.set_cons_succ]
            refine wpAnyH_take (i := 24) (oi := _) (v := undef) rfl (by kernel_rfl) (by kernel_rfl) (by kernel_rfl) (fun _ _ _ h => h) (Or.inr ⟨by rfl, rfl⟩) (by assumption) ?_
            try simp only [Act.put, List.getElem_toArray, List.getElem_cons_zero, List.getElem_cons_succ, List.setIfInBounds_toArray, List.set_cons_zero, List.set_cons_succ]
            refine wpAnyH_take (i := 25) (oi := _) (v := undef) rfl (by kernel_rfl) (by kernel_rfl) (by kernel_rfl) (fun _ _ _ h => h) (Or.inr ⟨by rfl, rfl⟩) (by assumption) ?_
            try simp only [Act.put, List.getElem_toArray, List.getElem_cons_zero, List.getElem_cons_succ, List.setIfInBounds_toArray, List.set_cons_zero, List.set_cons_succ]
            refine wpAnyH_take (i := 26) (oi := _) (v := undef) rfl (by kernel_rfl) (by kernel_rfl) (by kernel_rfl) (fun _ _ _ h => h) (Or.inr ⟨by rfl, rfl⟩) (by assumption) ?_
            try simp only [Act.put, List.getElem_toArray, List.getElem_cons_zero, List.getElem_cons_succ, List.setIfInBounds_toArray, List.set_cons_zero, List.set_cons_succ]
            refine wpAnyH_take (i := 27) (oi := _) (v := undef) rfl (by kernel_rfl) (by kernel_rfl) (by kernel_rfl) (fun _ _ _ h => h) (Or.inr ⟨by rfl, rfl⟩) (by assumption) ?_
            try simp only [Act.put, List.getElem_toArray, List.getElem_cons_zero, List.getElem_cons_succ, List.setIfInBounds_toArray, List.set_cons_zero, List.set_cons_succ]
            refine wpAnyH_take (i := 28) (oi := _) (v := .bool true) rfl (by kernel_rfl) (by kernel_rfl) (by kernel_rfl) (fun _ _ _ h => h) (Or.inl ⟨by rfl, ?_⟩) (by assumption) ?_
            · intro w hSw
              try dsimp only at hSw
              go_split_ands
              go_simp
            try simp only [Act.put, List.getElem_toArray, List.getElem_cons_zero, List.getElem_cons_succ, List.setIfInBounds_toArray, List.set_cons_zero, List.set_cons_succ]
            refine wpAnyH_take (i := 29) (oi := _) (v := .bool true) rfl (by kernel_rfl) (by kernel_rfl) (by kernel_rfl) (fun _ _ _ h => h) (Or.inl ⟨by rfl, ?_⟩) (by assumption) ?_
            · intro w hSw
              try dsimp only at hSw
              go_split_ands
              go_simp
            try simp only [Act.put, List.getElem_toArray, List.getElem_cons_zero, List.getElem_cons_succ, List.setIfInBounds_toArray, List.set_cons_zero, List.set_cons_succ]
            refine wpAnyH_take (i := 30) (oi := _) (v := .bool true) rfl (by kernel_rfl) (by kernel_rfl) (by kernel_rfl) (fun _ _ _ h => h) (Or.inl ⟨by rfl, ?_⟩) (by assumption) ?_
            · intro w hSw
              try dsimp only at hSw
              go_split_ands
              go_simp
            try simp only [Act.put, List.getElem_toArray, List.getElem_cons_zero, List.getElem_cons_succ, List.setIfInBounds_toArray, List.set_cons_zero, List.set_cons_succ]
            refine wpAnyH_ready (rs := [31]) (by kernel_rfl) (by simp) ?_
            refine AllReadyH.cons (o := _) rfl (fun K1 hK => ?_) AllReadyH.nil
            clear hHeld
            go_simp
            refine (awake_conf _).mono ?_
            rintro e w9 ⟨rfl, hb⟩
            have VC := Lib.hid (VC.out.below hb)
            have VD := Lib.hid (VD.out.below hb)
            have K := Lib.hid (K.out.trans (hb.mono K.out.size))
            clear hb
            refine hK.out _ _ (by exact ⟨⟨VC.out.box.c0, VC.out.box.c1, VC.out.box.c2⟩, VD.out.box.c0, VD.out.box.c1, VD.out.box.c2⟩) (fun hHeld => ?_)
            clear hK K1
            try simp only [Act.put, List.getElem_toArray, List.getElem_cons_zero, List.getElem_cons_succ, List.setIfInBounds_toArray, List.set_cons_zero, List.set_cons_succ]
            refine wpAnyH_take (i := 32) (oi := _) (v := .bool true) rfl (by kernel_rfl) (by kernel_rfl) (by kernel_rfl) (fun _ _ _ h => h) (Or.inl ⟨by rfl, ?_⟩) (by assumption) ?_
            · intro w hSw
              try dsimp only at hSw
              go_split_ands
              go_simp
            try simp only [Act.put, List.getElem_toArray, List.getElem_cons_zero, List.getElem_cons_succ, List.setIfInBounds_toArray, List.set_cons_zero, List.set_cons_succ]
            refine wpAnyH_take (i := 33) (oi := _) (v := .bool true) rfl (by kernel_rfl) (by kernel_rfl) (by kernel_rfl) (fun _ _ _ h => h) (Or.inl ⟨by rfl, ?_⟩) (by assumption) ?_
            · intro w hSw
              try dsimp only at hSw
              go_split_ands
              go_simp
            try simp only [Act.put, List.getElem_toArray, List.getElem_cons_zero, List.getElem_cons_succ, List.setIfInBounds_toArray, List.set_cons_zero, List.set_cons_succ]
            refine wpAnyH_done (by kernel_rfl) ?_ _
            refine NoPanic.normal ?_
            go_wp2
            go_ret
            exact ⟨rfl, K.out⟩
end Go.Proofs.Ytpgoddbijkolbaa
