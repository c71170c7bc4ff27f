/- The contract of package conf's Put. Condition: the configuration's lists lie in memory. -/
import Derived.Test.YtpgoddbijkolbaaC6
import Derived.Test.YtpgoddbijkolbaaC8
namespace Go.Proofs.Ytpgoddbijkolbaa
open Go.RowKit
set_option maxRecDepth 100000

/-- What Put answers. -/
def putL (C : Cf) : List UInt8 := if chk C = 0 then encC C else []
theorem putL_yes {C : Cf} (h : chk C = 0) : putL C = encC C := by unfold putL; rw [if_pos h]
theorem putL_no {C : Cf} (h : chk C ≠ 0) : putL C = [] := by unfold putL; rw [if_neg h]
/-- A string in a variable of its own. -/
def StrAt (w : World) (q : Nat) (l : List UInt8) : Prop := w.heap[q]? = some (.cells #[strV l] 9 (0, 0))
set_option maxHeartbeats 1000000 in
theorem put1_ok (b q : Nat) (v1 v2 v3 : Value) (C : Cf) (w : World) (hx : CBox w b v1 v2 v3) (hq : StrAt w q []) (h : CfAt w v1 v2 v3 C) : Calls Try.prog 23 #[.pointer (some ⟨b, 0, none⟩), .pointer (some ⟨q, 0, none⟩)] w fun e w' => e = endN (chk C) ∧ w.grownBy w' (some q) ∧ StrAt w' q (putL C) := by
  have d0 := hx.c0
  have d1 := hx.c1
  have d2 := hx.c2
  have HC := Lib.hid h
  have X := Lib.hid hx
  have HQ := Lib.hid hq
  clear h hx hq
  go_enter Try.func23, Try.ntmps23
  go_wp2_with fail
  refine (askWhole_ok v1 v2 v3 C w HC.out).mono ?_
  rintro e w2 ⟨rfl, hb⟩
  have K2 := Lib.hid hb
  clear hb d0 d1 d2
  by_cases hk : chk C = 0
  · rw [hk, show endN 0 = okRet from rfl]
    have d0 := (X.out.below K2.out).c0
    have d1 := (X.out.below K2.out).c1
    have d2 := (X.out.below K2.out).c2
    have HK := Lib.hid hk
    clear hk
    go_wp2_with fail
    refine (writeConf_ok v1 v2 v3 C (chk_zero HK.out).1 w2 (HC.out.below K2.out)).mono ?_
    rintro e w3 ⟨rfl, hb⟩
    have K3 := Lib.hid (K2.out.trans (hb.mono K2.out.size))
    have Q3 : Hid (StrAt w3 q []) := Lib.hid (below_block K3.out HQ.out)
    have q0 : w3.cell? ⟨q, 0, none⟩ = some (strV []) := by rw [cell_of_row w3 _ _ _ _ _ Q3.out]; rfl
    have f0 : w3.frozen? ⟨q, 0, none⟩ = false := frozen_of_row w3 _ 0 _ _ Q3.out
    clear hb
    go_wp2
    go_end0
    refine ⟨by rw [HK.out]; rfl, grownBy_trans (grownBy_of_below K3.out _) (grownBy_setCell _ _ _ _), ?_⟩
    rw [putL_yes HK.out]
    exact heap_setCell_same w3 q 0 _ _ (strV (encC C)) Q3.out
  · have e : endN (chk C) = badE (chk C) := by simp [endN, hk]
    rw [e]
    exact ⟨rfl, e.symm, grownBy_of_below K2.out _, by rw [putL_no hk]; exact below_block K2.out HQ.out⟩
set_option maxHeartbeats 1000000 in
theorem put_conf (v1 v2 v3 : Value) (C : Cf) (w : World) (h : CfAt w v1 v2 v3 C) : Calls Try.prog 11 #[.agg #[v1, v2, v3]] w fun e w' => e = .returned (.tuple #[strV (putL C), .int .i64 (chk C)]) ∧ Below w.heap.size w w' := by
  have hmf : ∀ (fn : Fn) (first cap : Array Value) (w : World), (Instr.makeFunc fn first cap).run Try.prog w = .ok (.func fn first cap) w := fun _ _ _ _ => rfl
  obtain ⟨w1, hw1⟩ : ∃ w1, w1 = (w.alloc (.cells #[v1, v2, v3] 26)).alloc (.cells #[strV []] 9) := ⟨_, rfl⟩
  have hb1 : Below w.heap.size w w1 := by rw [hw1]; exact below_two w _ _
  have HX : CBox w1 w.heap.size v1 v2 v3 := by rw [hw1]; exact (CBox.new w _ _ _).below ((Below.refl _ _).alloc (Nat.le_refl _) _)
  have HQ : StrAt w1 (w.heap.size + 1) [] := by rw [hw1]; exact heap_alloc2_new w _ _
  have hsz : w1.heap.size = w.heap.size + 2 := by rw [hw1]; simp
  have hA : Below w1.heap.size w1 (w1.alloc (.cells #[.int .i64 0] 29)) := (Below.refl _ _).alloc (Nat.le_refl _) _
  obtain ⟨w2, hw2⟩ : ∃ w2, w2 = w1.alloc (.cells #[.int .i64 0] 29) := ⟨_, rfl⟩
  have hE : w2.heap[w1.heap.size]? = some (.cells #[.int .i64 0] 29 (0, 0)) := by rw [hw2]; exact heap_alloc_new w1 _
  have hdo := put1_ok w.heap.size (w.heap.size + 1) v1 v2 v3 C (w1.alloc (.cells #[.int .i64 0] 29)) (HX.below hA) (below_block hA HQ) ((h.below hb1).below hA)
  rw [← hw2] at hA hdo
  have hcaught := caught_ok 23 #[.pointer (some ⟨w.heap.size, 0, none⟩), .pointer (some ⟨w.heap.size + 1, 0, none⟩)] (enters Try.func23 rfl rfl) (chk C) w1 (fun w' => w2.grownBy w' (some (w.heap.size + 1)) ∧ StrAt w' (w.heap.size + 1) (putL C)) (by rw [← hw2]; exact hdo)
    (fun w' hw => ⟨0, (hw.1.block w1.heap.size (lt_of_block hE) (fun e => by have := Option.some.inj e; omega)).trans hE⟩)
  have HCC := Lib.hid hcaught
  have B1 := Lib.hid hb1
  have A1 := Lib.hid hA
  clear hdo hcaught hA hb1 HX HQ h hE hw2
  go_enter Try.func11, Try.ntmps11
  go_wp2_with fail
  rw [← hw1]
  clear hw1
  refine HCC.out.mono ?_
  rintro e w4 ⟨rfl, w3, ⟨hg, hn⟩, rfl⟩
  have K := Lib.hid (below_setNew (x := .int .i64 (chk C)) (b := w1.heap.size) (((B1.out.trans (A1.out.mono B1.out.size)).trans (below_of_grownBy hg (Nat.le_trans B1.out.size A1.out.size) (by omega)))) B1.out.size)
  have hc : (w3.setCell ⟨w1.heap.size, 0, none⟩ (.int .i64 (chk C))).heap[w.heap.size + 1]? = some (.cells #[strV (putL C)] 9 (0, 0)) := by
    rw [Below.heap_setCell _ _ _ _ (by simp only; omega)]; exact hn
  generalize w3.setCell ⟨w1.heap.size, 0, none⟩ (.int .i64 (chk C)) = w5 at *
  have d0 : w5.cell? ⟨w.heap.size + 1, 0, none⟩ = some (strV (putL C)) := by rw [cell_of_row w5 _ _ _ _ _ hc]; rfl
  have f0 : w5.frozen? ⟨w.heap.size + 1, 0, none⟩ = false := frozen_of_row w5 _ 0 _ _ hc
  clear hg hn hc
  go_wp2
  have d1 := cell_set_same w5 _ _ (strV (putL C)) d0
  refine ⟨rfl, .tuple #[strV (putL C), .int .i64 (chk C)], ?_, rfl, K.out.setCell (p := ⟨w.heap.size + 1, 0, none⟩) (Nat.le_succ _) _⟩
  simp [results, Try.results11, go_sem, d1]
end Go.Proofs.Ytpgoddbijkolbaa
