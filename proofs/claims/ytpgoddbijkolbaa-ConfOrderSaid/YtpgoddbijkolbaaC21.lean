/- Layer 6's long, one, awake. Conditions: named in the theorems. -/
import Derived.Test.YtpgoddbijkolbaaC10
import Derived.Test.YtpgoddbijkolbaaC14
namespace Go.Proofs.Ytpgoddbijkolbaa
open Go.RowKit
set_option maxRecDepth 100000

/-- Rows that came in. -/
def RowsIn (k : Nat) (w : World) (v : Value) (S : List Row) : Prop := ∃ a c, v = .slice a S.length c ∧ (∀ T ∈ S, T.length = k) ∧ (S = [] ∨ ∃ b o, a = some ⟨b, o, none⟩ ∧ b < w.heap.size ∧
  ∀ i, i < S.length → ∀ j, j < k → w.cell? ⟨b, o + i * k + j, none⟩ = some (.int .i64 ((S.getD i []).getD j 0)))
theorem RowsIn.at_ {k : Nat} {w : World} {v : Value} {S : List Row} (h : RowsIn k w v S) (hl : S.length ≤ 100) : RowsAt k w v S := by
  obtain ⟨a, c, rfl, hT, hS⟩ := h
  exact ⟨a, c, rfl, by omega, hT, hS⟩
/-- A configuration that came in. -/
structure ConfIn (w : World) (v : Value) (C : Cf) : Prop where
  parts : ∃ v1 v2 v3, v = .agg #[v1, v2, v3] ∧ RowsIn 2 w v1 C.1 ∧ RowsIn 2 w v2 C.2.1 ∧ RowsIn 4 w v3 C.2.2
/-- Are there more than 100 of something? -/
def longC (C : Cf) : Prop := 100 < C.1.length ∨ 100 < C.2.1.length ∨ 100 < C.2.2.length
theorem ConfIn.cf {w : World} {v : Value} {C : Cf} (h : ConfIn w v C) (hl : ¬ longC C) : ∃ v1 v2 v3, v = .agg #[v1, v2, v3] ∧ CfAt w v1 v2 v3 C := by
  obtain ⟨v1, v2, v3, rfl, h1, h2, h3⟩ := h.parts
  unfold longC at hl
  exact ⟨v1, v2, v3, rfl, h1.at_ (by omega), h2.at_ (by omega), h3.at_ (by omega)⟩
theorem long_yes (v : Value) (C : Cf) (w : World) (h : ConfIn w v C) (hl : longC C) : Calls Try.prog 9 #[v] w fun e w' => e = .returned (.bool true) ∧ Below w.heap.size w w' := by
  obtain ⟨v1, v2, v3, rfl, ⟨a1, c1, rfl, -, -⟩, ⟨a2, c2, rfl, -, -⟩, ⟨a3, c3, rfl, -, -⟩⟩ := h.parts
  obtain ⟨P, W, H⟩ := C
  unfold longC at hl
  simp only at hl ⊢
  generalize P.length = n at *
  generalize W.length = m at *
  generalize H.length = k at *
  have hc : (100 : Int) < n ∨ (¬ (100 : Int) < n ∧ (100 : Int) < m) ∨ (¬ (100 : Int) < n ∧ ¬ (100 : Int) < m ∧ (100 : Int) < k) := by omega
  clear hl h
  rcases hc with h1 | ⟨h1, h2⟩ | ⟨h1, h2, h3⟩
  all_goals
    go_enter Try.func9, Try.ntmps9
    go_wp2
    go_ret
    exact ⟨rfl, (Below.refl _ _).alloc (Nat.le_refl _) _⟩
theorem long_no (v1 v2 v3 : Value) (C : Cf) (w : World) (h : CfAt w v1 v2 v3 C) (hl : ¬ longC C) : Calls Try.prog 9 #[.agg #[v1, v2, v3]] w fun e w' => e = .returned (.bool false) ∧ Below w.heap.size w w' := by
  obtain ⟨⟨a1, c1, rfl, -, -, -⟩, ⟨a2, c2, rfl, -, -, -⟩, ⟨a3, c3, rfl, -, -, -⟩⟩ := h
  obtain ⟨P, W, H⟩ := C
  unfold longC at hl
  simp only at hl ⊢
  generalize P.length = n at *
  generalize W.length = m at *
  generalize H.length = k at *
  have h1 : ¬ (100 : Int) < n := by omega
  have h2 : ¬ (100 : Int) < m := by omega
  have h3 : ¬ (100 : Int) < k := by omega
  clear hl
  go_enter Try.func9, Try.ntmps9
  go_wp2
  go_ret
  exact ⟨rfl, (Below.refl _ _).alloc (Nat.le_refl _) _⟩

/-- The document's example. -/
def oneC : Cf := ([[4, 1]], [[0, 1]], [])
theorem one_chk : chk oneC = 0 := by decide
theorem one_frames : framesA oneC = 5 := by decide
def oneL : List UInt8 := [80, 82, 49, 1, 0, 4, 1, 1, 0, 1, 0]
theorem one_put : putL oneC = oneL := by rw [putL_yes one_chk]; rfl
theorem one_get : parse oneL = some oneC := by rfl
theorem none_get : parse magic = none := by rfl
theorem one_getE : getE oneL = 0 := by unfold getE; rw [one_get]; exact one_chk
theorem one_getC : getC oneL = oneC := by unfold getC; rw [one_get]; simp only [one_chk, if_true]
theorem none_getE : getE magic = 6 := by unfold getE; rw [none_get]
/-- What one leaves. -/
def OnePost (w : World) (e : Ending) (w' : World) : Prop := ∃ v1 v2 v3, e = .returned (.agg #[v1, v2, v3]) ∧ CfAt w' v1 v2 v3 oneC ∧ Below w.heap.size w w'
theorem one_row {w : World} {b : Nat} {x y : Int} {t : TypeId} (h : w.heap[b]? = some (.cells #[.int .i64 x, .int .i64 y] t (0, 0))) : RowsAt 2 w (.slice (some ⟨b, 0, none⟩) 1 1) [[x, y]] := by
  refine ⟨_, _, rfl, by simp, by simp, Or.inr ⟨b, 0, rfl, lt_of_block h, fun i hi j hj => ?_⟩⟩
  obtain rfl : i = 0 := by simpa using hi
  rw [cell_of_row w b _ _ _ _ h]
  match j, hj with
  | 0, _ => rfl
  | 1, _ => rfl
set_option maxHeartbeats 1000000 in
theorem one_ok (w : World) : Calls Try.prog 21 #[] w (OnePost w) := by
  go_enter Try.func21, Try.ntmps21
  go_wp2
  obtain ⟨wb, hwb⟩ : ∃ wb, wb = (w.alloc (.cells #[.slice (some ⟨w.heap.size + 1, 0, none⟩) 1 1, .slice (some ⟨w.heap.size + 1 + 1, 0, none⟩) 1 1, .slice none 0 0] 26)).alloc (.cells #[.int .i64 4, .int .i64 1] 41) := ⟨_, rfl⟩
  have hsb : wb.heap.size = w.heap.size + 1 + 1 := by rw [hwb]; simp
  have hbb : Below w.heap.size w wb := by rw [hwb]; exact below_two w _ _
  have hX : CBox wb w.heap.size (.slice (some ⟨w.heap.size + 1, 0, none⟩) 1 1) (.slice (some ⟨w.heap.size + 1 + 1, 0, none⟩) 1 1) (.slice none 0 0) := by rw [hwb]; exact below_block ((Below.refl _ _).alloc (Nat.le_refl _) _) (heap_alloc_new w _)
  have hP : wb.heap[w.heap.size + 1]? = some (.cells #[.int .i64 4, .int .i64 1] 41 (0, 0)) := by rw [hwb]; exact heap_alloc2_new w _ _
  rw [← hwb]
  have hA : Below wb.heap.size wb (wb.alloc (.cells #[.int .i64 0, .int .i64 1] 44)) := (Below.refl _ _).alloc (Nat.le_refl _) _
  have hW := heap_alloc_new wb (.cells #[.int .i64 0, .int .i64 1] 44)
  rw [hsb] at hW
  have q0 := (hX.below hA).c0
  have q1 := (hX.below hA).c1
  have q2 := (hX.below hA).c2
  refine ⟨rfl, .agg #[.slice (some ⟨w.heap.size + 1, 0, none⟩) 1 1, .slice (some ⟨w.heap.size + 1 + 1, 0, none⟩) 1 1, .slice none 0 0], ?_, _, _, _, rfl, ⟨one_row (below_block hA hP), one_row hW, RowsAt.nil _ _⟩, hbb.trans (hA.mono hbb.size)⟩
  simp [results, Try.results21, go_sem, q0, q1, q2]
/-- A configuration in a variable. -/
structure VarAt (w : World) (b : Nat) (v1 v2 v3 : Value) (C : Cf) : Prop where
  box : CBox w b v1 v2 v3
  cf : CfAt w v1 v2 v3 C
theorem VarAt.below {w w' : World} {b : Nat} {v1 v2 v3 : Value} {C : Cf} (h : VarAt w b v1 v2 v3 C) (hb : Below w.heap.size w w') : VarAt w' b v1 v2 v3 C := ⟨h.box.below hb, h.cf.below hb⟩
theorem VarAt.new {w : World} {v1 v2 v3 : Value} {C : Cf} (h : CfAt w v1 v2 v3 C) : VarAt (w.alloc (.cells #[v1, v2, v3] 26)) w.heap.size v1 v2 v3 C :=
  ⟨CBox.new w _ _ _, h.below ((Below.refl _ _).alloc (Nat.le_refl _) _)⟩
theorem same_is (v1 v2 v3 u1 u2 u3 : Value) (C D : Cf) (r : Bool) (hr : decide (C = D) = r) (w : World) (h : CfAt w v1 v2 v3 C) (k : CfAt w u1 u2 u3 D) : Calls Try.prog 17 #[.agg #[v1, v2, v3], .agg #[u1, u2, u3]] w fun e w' => e = .returned (.bool r) ∧ Below w.heap.size w w' := hr ▸ same_ok v1 v2 v3 u1 u2 u3 C D w h k
theorem frames_is (v1 v2 v3 : Value) (C : Cf) (n : Int) (hn : framesA C = n) (w : World) (h : CfAt w v1 v2 v3 C) : Calls Try.prog 15 #[.agg #[v1, v2, v3]] w fun e w' => e = .returned (.int .i64 n) ∧ Below w.heap.size w w' := hn ▸ framesOf_ok v1 v2 v3 C w h
set_option maxHeartbeats 4000000 in
theorem awake_conf (w : World) : Calls Try.prog 10 #[] w fun e w' => e = .returned (.bool true) ∧ Below w.heap.size w w' := by
  have eb : (oneL == oneL) = true := by simp
  go_enter Try.func10, Try.ntmps10
  go_wp2_with fail
  refine (one_ok w).mono ?_
  rintro e w1 ⟨v1, v2, v3, rfl, hC, hb⟩
  have B1 := Lib.hid hb
  have C1 := Lib.hid hC
  clear hb hC
  go_wp2_with fail
  refine (put_conf v1 v2 v3 oneC w1 C1.out).mono ?_
  rintro e w2 ⟨rfl, hb⟩
  have B2 := Lib.hid (B1.out.trans (hb.mono B1.out.size))
  rw [one_put, one_chk]
  clear hb C1
  go_wp2_with fail
  refine (get_conf magic (by decide) w2).mono ?_
  rintro e w3 ⟨t1, t2, t3, rfl, hC, hb⟩
  rw [none_getE]
  have B3 := Lib.hid (B2.out.trans (hb.mono B2.out.size))
  obtain ⟨a1, n1, m1, rfl⟩ := hC.ps.isSlice
  obtain ⟨a2, n2, m2, rfl⟩ := hC.ws.isSlice
  obtain ⟨a3, n3, m3, rfl⟩ := hC.hs.isSlice
  clear hb hC
  go_wp2_with fail
  have A4 := Lib.hid (B3.out.alloc B3.out.size (.cells #[.slice a1 n1 m1, .slice a2 n2 m2, .slice a3 n3 m3] 26))
  generalize (w3.alloc (.cells #[.slice a1 n1 m1, .slice a2 n2 m2, .slice a3 n3 m3] 26)) = w4 at *
  refine (get_conf oneL (by decide) w4).mono ?_
  rintro e w5 ⟨t1, t2, t3, rfl, hC, hb⟩
  rw [one_getE]
  rw [one_getC] at hC
  have B5 := Lib.hid (A4.out.trans (hb.mono A4.out.size))
  obtain ⟨a1, n1, m1, rfl⟩ := hC.ps.isSlice
  obtain ⟨a2, n2, m2, rfl⟩ := hC.ws.isSlice
  obtain ⟨a3, n3, m3, rfl⟩ := hC.hs.isSlice
  have V5 := Lib.hid (VarAt.new hC)
  have K5 := Lib.hid ((B5.out.alloc B5.out.size (.cells #[.slice a1 n1 m1, .slice a2 n2 m2, .slice a3 n3 m3] 26)))
  clear hb hC
  go_wp2_with fail
  obtain ⟨b, hbx⟩ : ∃ b, b = w5.heap.size := ⟨_, rfl⟩
  rw [← hbx] at V5 ⊢
  generalize w5.alloc (.cells #[.slice a1 n1 m1, .slice a2 n2 m2, .slice a3 n3 m3] 26) = w6 at *
  clear hbx B5 A4 B3 B2 B1
  have V := Lib.hid (V5.out.below (Below.refl _ _).drew)
  have K := Lib.hid K5.out.drew
  have x0 := V5.out.box.c0
  have x1 := V5.out.box.c1
  have x2 := V5.out.box.c2
  rw [show oneL = [80, 82, 49, 1, 0, 4, 1, 1, 0, 1, 0] from rfl]
  go_region_held3 (fun w' => w'.cell? ⟨b, 0, none⟩ = some (.slice a1 n1 m1) ∧ w'.cell? ⟨b, 1, none⟩ = some (.slice a2 n2 m2) ∧ w'.cell? ⟨b, 2, none⟩ = some (.slice a3 n3 m3)) (go_keep)
    (first
      | (go_at_call 21; refine (one_ok _).mono ?_; rintro e w7 ⟨u1, u2, u3, rfl, hC, hb⟩; have CO := Lib.hid hC; have V := Lib.hid (V.out.below hb); have K := Lib.hid (K.out.trans (hb.mono K.out.size)); clear hb hC; have x0 := V.out.box.c0; have x1 := V.out.box.c1; have x2 := V.out.box.c2)
      | (go_at_call 17; refine (same_is _ _ _ _ _ _ oneC oneC true (by decide) _ V.out.cf CO.out).mono ?_; rintro e w7 ⟨rfl, hb⟩; have V := Lib.hid (V.out.below hb); have K := Lib.hid (K.out.trans (hb.mono K.out.size)); clear hb; have x0 := V.out.box.c0; have x1 := V.out.box.c1; have x2 := V.out.box.c2)
      | (go_at_call 15; refine (frames_is _ _ _ oneC 5 one_frames _ CO.out).mono ?_; rintro e w7 ⟨rfl, hb⟩; have V := Lib.hid (V.out.below hb); have K := Lib.hid (K.out.trans (hb.mono K.out.size)); clear hb; have x0 := V.out.box.c0; have x1 := V.out.box.c1; have x2 := V.out.box.c2))
  go_wp2
  go_ret
  exact ⟨rfl, K.out⟩
end Go.Proofs.Ytpgoddbijkolbaa
