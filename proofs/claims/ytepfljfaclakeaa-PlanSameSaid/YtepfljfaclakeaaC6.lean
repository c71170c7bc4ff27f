/- The contracts of package conf's askWhole, Check, Frames. Condition: the configuration's lists lie in memory. -/
import Derived.Test.YtepfljfaclakeaaC5
namespace Go.Proofs.Ytepfljfaclakeaa
open Go.RowKit
set_option maxRecDepth 100000

theorem frames_ok (v1 v2 v3 : Value) (C : Cf) (hm : mayB C = true) (w : World) (h : CfAt w v1 v2 v3 C) : Calls Try.prog 35 #[.agg #[v1, v2, v3]] w fun e w' => e = .returned (.int .i64 (framesC C)) ∧ Below w.heap.size w w' := by
  obtain ⟨⟨p1, p2⟩, c1, c2⟩ := mayB_parts hm
  obtain ⟨P, W, H⟩ := C
  have hps := h.ps
  obtain ⟨a, c, rfl, _, _, _⟩ := hps
  have hhs := h.hs
  obtain ⟨a', c', rfl, _, _, _⟩ := hhs
  exact frames_in a a' _ c _ c' v2 P W H rfl rfl p1 c1 p2 c2 w h
theorem framesC_le {C : Cf} (hm : mayB C = true) : 0 ≤ framesC C ∧ framesC C ≤ 10000 := by
  obtain ⟨⟨p1, p2⟩, c1, c2⟩ := mayB_parts hm
  have h1 := sum_le partF 300 C.1 (fun T hT => (partF_le T (p2 T hT)).2.2)
  have h2 := sum_le chanF 300 C.2.2 (fun T hT => (chanF_le _ T (c2 T hT)).2.2.2)
  unfold framesC
  omega
set_option maxHeartbeats 1000000 in
theorem askWhole_ok (v1 v2 v3 : Value) (C : Cf) (w : World) (h : CfAt w v1 v2 v3 C) : Calls Try.prog 32 #[.agg #[v1, v2, v3]] w fun e w' => e = endN (chk C) ∧ Below w.heap.size w w' := by
  obtain ⟨w1, hw1⟩ : ∃ w1, w1 = w.alloc (.cells #[v1, v2, v3] 26) := ⟨_, rfl⟩
  have hb1 : Below w.heap.size w w1 := by rw [hw1]; exact (Below.refl _ _).alloc (Nat.le_refl _) _
  have HX : CBox w1 w.heap.size v1 v2 v3 := by rw [hw1]; exact CBox.new w _ _ _
  have HC := Lib.hid (h.below hb1)
  have X1 := Lib.hid HX
  have B1 := Lib.hid hb1
  have d0 := HX.c0
  have d1 := HX.c1
  have d2 := HX.c2
  clear h hb1 HX
  go_enter Try.func32, Try.ntmps32
  go_wp2_with fail
  rw [← hw1]
  clear hw1
  go_wp2_with fail
  refine (askConf_ok v1 v2 v3 C w1 HC.out).mono ?_
  rintro e w2 ⟨rfl, hb⟩
  have K2 := Lib.hid hb
  clear hb d0 d1 d2
  cases hm : mayB C with
  | false => exact ⟨rfl, by rw [show chk C = 2 by unfold chk; rw [hm]; rfl]; rfl, B1.out.trans (K2.out.mono B1.out.size)⟩
  | true =>
    rw [endE_true]
    have d0 := (X1.out.below K2.out).c0
    have d1 := (X1.out.below K2.out).c1
    have d2 := (X1.out.below K2.out).c2
    go_wp2_with fail
    refine (frames_ok v1 v2 v3 C hm w2 (HC.out.below K2.out)).mono ?_
    rintro e w3 ⟨rfl, hb⟩
    have K3 := Lib.hid (K2.out.trans (hb.mono K2.out.size))
    have hfl := framesC_le hm
    obtain ⟨f, hf⟩ : ∃ f, f = framesC C := ⟨_, rfl⟩
    rw [← hf] at hfl ⊢
    have HF := Lib.hid hf
    clear hb hf
    by_cases hle : f ≤ 1024
    · have hd : decide (f ≤ 1024) = true := decide_eq_true hle
      go_wp2_with fail
      refine (must_yes _ _).mono ?_
      rintro e w4 ⟨rfl, rfl⟩
      go_wp2
      go_end0
      exact ⟨by rw [show chk C = 0 by unfold chk; rw [hm, ← HF.out]; simp [hle]]; rfl, B1.out.trans (K3.out.mono B1.out.size)⟩
    · have hd : decide (f ≤ 1024) = false := decide_eq_false hle
      go_wp2_with fail
      refine (must_no _ _).mono ?_
      rintro e w4 ⟨rfl, rfl⟩
      exact ⟨rfl, by rw [show chk C = 3 by unfold chk; rw [hm, ← HF.out]; simp [hle]]; rfl, B1.out.trans (K3.out.mono B1.out.size)⟩
theorem check1_ok (b : Nat) (v1 v2 v3 : Value) (C : Cf) (w : World) (hx : CBox w b v1 v2 v3) (h : CfAt w v1 v2 v3 C) : Calls Try.prog 31 #[.pointer (some ⟨b, 0, none⟩)] w fun e w' => e = endN (chk C) ∧ Below w.heap.size w w' := by
  have d0 := hx.c0
  have d1 := hx.c1
  have d2 := hx.c2
  have HC := Lib.hid h
  clear h hx
  go_enter Try.func31, Try.ntmps31
  go_wp2_with fail
  refine (askWhole_ok v1 v2 v3 C w HC.out).mono ?_
  rintro e w2 ⟨rfl, hb⟩
  rcases chk_cases C with hk | hk | hk
  · rw [hk]
    go_wp2
    go_end0
    exact ⟨by rw [hk]; rfl, hb⟩
  · rw [hk]
    exact ⟨rfl, by rw [hk]; rfl, hb⟩
  · rw [hk]
    exact ⟨rfl, by rw [hk]; rfl, hb⟩
theorem below_setNew {w w' : World} {b : Nat} {x : Value} (h : Below w.heap.size w w') (hb : w.heap.size ≤ b) : Below w.heap.size w (w'.setCell ⟨b, 0, none⟩ x) := h.setCell (p := ⟨b, 0, none⟩) hb _
theorem check_ok (v1 v2 v3 : Value) (C : Cf) (w : World) (h : CfAt w v1 v2 v3 C) : Calls Try.prog 21 #[.agg #[v1, v2, v3]] w fun e w' => e = .returned (.int .i64 (chk C)) ∧ Below w.heap.size w w' := by
  have hmf : ∀ (fn : Fn) (first cap : Array Value) (w : World), (Instr.makeFunc fn first cap).run Try.prog w = .ok (.func fn first cap) w := fun _ _ _ _ => rfl
  obtain ⟨w1, hw1⟩ : ∃ w1, w1 = w.alloc (.cells #[v1, v2, v3] 26) := ⟨_, rfl⟩
  have hb1 : Below w.heap.size w w1 := by rw [hw1]; exact (Below.refl _ _).alloc (Nat.le_refl _) _
  have HX : CBox w1 w.heap.size v1 v2 v3 := by rw [hw1]; exact CBox.new w _ _ _
  have hA : Below w1.heap.size w1 (w1.alloc (.cells #[.int .i64 0] 29)) := (Below.refl _ _).alloc (Nat.le_refl _) _
  have hdo := check1_ok w.heap.size v1 v2 v3 C (w1.alloc (.cells #[.int .i64 0] 29)) (HX.below hA) ((h.below hb1).below hA)
  have hcaught := caught_ok 31 #[.pointer (some ⟨w.heap.size, 0, none⟩)] (enters Try.func31 rfl rfl) (chk C) w1 (fun w' => Below (w1.alloc (.cells #[.int .i64 0] 29)).heap.size (w1.alloc (.cells #[.int .i64 0] 29)) w') hdo
    (fun w' hw => ⟨0, below_block hw (heap_alloc_new w1 _)⟩)
  have HCC := Lib.hid hcaught
  have B1 := Lib.hid hb1
  have A1 := Lib.hid hA
  clear hdo hcaught hA hb1 HX h
  go_enter Try.func21, Try.ntmps21
  go_wp2_with fail
  rw [← hw1]
  clear hw1
  go_wp2_with fail
  refine HCC.out.mono ?_
  rintro e w2 ⟨rfl, w3, hb, rfl⟩
  have K := Lib.hid (B1.out.trans ((below_setNew (x := .int .i64 (chk C)) (A1.out.trans (hb.mono A1.out.size)) (Nat.le_refl _)).mono B1.out.size))
  clear hb
  go_wp2
  go_ret
  exact ⟨rfl, K.out⟩
def frE (C : Cf) : Int := if mayB C then 0 else 2
theorem frE_yes {C : Cf} (h : mayB C = true) : frE C = 0 := by unfold frE; rw [if_pos h]
theorem frE_no {C : Cf} (h : mayB C = false) : frE C = 2 := by unfold frE; rw [if_neg (by rw [h]; decide)]
/-- A number in a variable of its own. -/
def NumAt (w : World) (q : Nat) (n : Int) : Prop := w.heap[q]? = some (.cells #[.int .i64 n] 3 (0, 0))
set_option maxHeartbeats 1000000 in
theorem frames1_ok (b q : Nat) (v1 v2 v3 : Value) (C : Cf) (w : World) (hx : CBox w b v1 v2 v3) (hq : NumAt w q 0) (h : CfAt w v1 v2 v3 C) : Calls Try.prog 33 #[.pointer (some ⟨b, 0, none⟩), .pointer (some ⟨q, 0, none⟩)] w fun e w' => e = endN (frE C) ∧ w.grownBy w' (some q) ∧ NumAt w' q (framesA C) := by
  have d0 := hx.c0
  have d1 := hx.c1
  have d2 := hx.c2
  have HC := Lib.hid h
  have X := Lib.hid hx
  have HQ := Lib.hid hq
  clear h hx hq
  go_enter Try.func33, Try.ntmps33
  go_wp2_with fail
  refine (askConf_ok v1 v2 v3 C w HC.out).mono ?_
  rintro e w2 ⟨rfl, hb⟩
  have K2 := Lib.hid hb
  clear hb d0 d1 d2
  cases hm : mayB C with
  | false => exact ⟨rfl, by rw [frE_no hm]; rfl, grownBy_of_below K2.out _, by rw [show framesA C = 0 by unfold framesA; rw [hm]; rfl]; exact below_block K2.out HQ.out⟩
  | true =>
    rw [endE_true]
    have d0 := (X.out.below K2.out).c0
    have d1 := (X.out.below K2.out).c1
    have d2 := (X.out.below K2.out).c2
    go_wp2_with fail
    refine (frames_ok v1 v2 v3 C hm w2 (HC.out.below K2.out)).mono ?_
    rintro e w3 ⟨rfl, hb⟩
    have K3 := Lib.hid (K2.out.trans (hb.mono K2.out.size))
    have Q3 : Hid (NumAt w3 q 0) := Lib.hid (below_block K3.out HQ.out)
    have q0 : w3.cell? ⟨q, 0, none⟩ = some (.int .i64 0) := by rw [cell_of_row w3 _ _ _ _ _ Q3.out]; rfl
    have f0 : w3.frozen? ⟨q, 0, none⟩ = false := frozen_of_row w3 _ 0 _ _ Q3.out
    clear hb
    go_wp2
    go_end0
    refine ⟨by rw [frE_yes hm]; rfl, grownBy_trans (grownBy_of_below K3.out _) (grownBy_setCell _ _ _ _), ?_⟩
    rw [show framesA C = framesC C by unfold framesA; rw [hm]; rfl]
    exact heap_setCell_same w3 q 0 _ _ (.int .i64 (framesC C)) Q3.out
set_option maxHeartbeats 1000000 in
theorem framesOf_ok (v1 v2 v3 : Value) (C : Cf) (w : World) (h : CfAt w v1 v2 v3 C) : Calls Try.prog 22 #[.agg #[v1, v2, v3]] w fun e w' => e = .returned (.int .i64 (framesA C)) ∧ Below w.heap.size w w' := by
  have hmf : ∀ (fn : Fn) (first cap : Array Value) (w : World), (Instr.makeFunc fn first cap).run Try.prog w = .ok (.func fn first cap) w := fun _ _ _ _ => rfl
  obtain ⟨w1, hw1⟩ : ∃ w1, w1 = (w.alloc (.cells #[v1, v2, v3] 26)).alloc (.cells #[.int .i64 0] 3) := ⟨_, rfl⟩
  have hb1 : Below w.heap.size w w1 := by rw [hw1]; exact below_two w _ _
  have HX : CBox w1 w.heap.size v1 v2 v3 := by rw [hw1]; exact (CBox.new w _ _ _).below ((Below.refl _ _).alloc (Nat.le_refl _) _)
  have HQ : NumAt w1 (w.heap.size + 1) 0 := by rw [hw1]; exact heap_alloc2_new w _ _
  have hsz : w1.heap.size = w.heap.size + 2 := by rw [hw1]; simp
  have hA : Below w1.heap.size w1 (w1.alloc (.cells #[.int .i64 0] 29)) := (Below.refl _ _).alloc (Nat.le_refl _) _
  obtain ⟨w2, hw2⟩ : ∃ w2, w2 = w1.alloc (.cells #[.int .i64 0] 29) := ⟨_, rfl⟩
  have hE : w2.heap[w1.heap.size]? = some (.cells #[.int .i64 0] 29 (0, 0)) := by rw [hw2]; exact heap_alloc_new w1 _
  have hdo := frames1_ok w.heap.size (w.heap.size + 1) v1 v2 v3 C (w1.alloc (.cells #[.int .i64 0] 29)) (HX.below hA) (below_block hA HQ) ((h.below hb1).below hA)
  rw [← hw2] at hA hdo
  have hdo' := hdo
  rw [hw2] at hdo'
  have hcaught := caught_ok 33 #[.pointer (some ⟨w.heap.size, 0, none⟩), .pointer (some ⟨w.heap.size + 1, 0, none⟩)] (enters Try.func33 rfl rfl) (frE C) w1 (fun w' => w2.grownBy w' (some (w.heap.size + 1)) ∧ NumAt w' (w.heap.size + 1) (framesA C)) (by rw [← hw2]; exact hdo)
    (fun w' hw => ⟨0, (hw.1.block w1.heap.size (lt_of_block hE) (fun e => by have := Option.some.inj e; omega)).trans hE⟩)
  have HCC := Lib.hid hcaught
  have B1 := Lib.hid hb1
  have A1 := Lib.hid hA
  clear hdo hdo' hcaught hA hb1 HX HQ h hE hw2
  go_enter Try.func22, Try.ntmps22
  go_wp2_with fail
  rw [← hw1]
  clear hw1
  go_wp2_with fail
  refine HCC.out.mono ?_
  rintro e w4 ⟨rfl, w3, ⟨hg, hn⟩, rfl⟩
  have K := Lib.hid (below_setNew (x := .int .i64 (frE C)) (b := w1.heap.size) (((B1.out.trans (A1.out.mono B1.out.size)).trans (below_of_grownBy hg (Nat.le_trans B1.out.size A1.out.size) (by omega)))) B1.out.size)
  have hc : (w3.setCell ⟨w1.heap.size, 0, none⟩ (.int .i64 (frE C))).heap[w.heap.size + 1]? = some (.cells #[.int .i64 (framesA C)] 3 (0, 0)) := by
    rw [Below.heap_setCell _ _ _ _ (by simp only; omega)]; exact hn
  generalize w3.setCell ⟨w1.heap.size, 0, none⟩ (.int .i64 (frE C)) = w5 at *
  have d0 : w5.cell? ⟨w.heap.size + 1, 0, none⟩ = some (.int .i64 (framesA C)) := by rw [cell_of_row w5 _ _ _ _ _ hc]; rfl
  clear hg hn hc
  go_wp2
  go_ret
  exact ⟨rfl, K.out⟩
end Go.Proofs.Ytepfljfaclakeaa
