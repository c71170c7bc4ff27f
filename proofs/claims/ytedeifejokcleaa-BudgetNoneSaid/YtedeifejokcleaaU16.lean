/- The walk of BudgetNone. No condition. -/
import Derived.Test.YtedeifejokcleaaU15
namespace Go.Proofs.Ytedeifejokcleaa
open Go.RowKit Go.Maps
set_option maxRecDepth 100000

theorem budInfo : (Try.prog.info? 42).map (fun i => (i.zero, i.size)) = some (some (.agg #[.map none]), 1) := by kernel_rfl
theorem budZero (w : World) : (zeroValue 42).run Try.prog w = .ok (.agg #[.map none]) w := (zero_of_info budInfo).1 w
structure NoneSt11 (W wr : World) : Prop where
  box : wr.heap[W.heap.size]? = some (.cells #[.map none] 42 (0, 0))
  below : Below W.heap.size W wr
theorem NoneSt11.step {W w w' : World} (h : NoneSt11 W w) (hb : Below w.heap.size w w') : NoneSt11 W w' := ⟨below_block hb h.box, h.below.trans (hb.mono h.below.size)⟩
theorem NoneSt11.no {W w : World} (h : NoneSt11 W w) : NoBud w (some ⟨W.heap.size, 0, none⟩) := Or.inr ⟨_, rfl, cell_of_one h.box⟩
set_option maxHeartbeats 4000000 in
theorem budgetNone_walk (a b n : Int) (W : World) (_ : I64 a) (_ : I64 b) (_ : I64 n) : Calls Try.prog 4 #[.int .i64 a, .int .i64 b, .int .i64 n] W fun e w' => e = .returned (.bool true) ∧ Below W.heap.size W w' := by
  have hz := budZero
  have N0 : Hid (NoneSt11 W (W.alloc (.cells #[.map none] 42))) := Lib.hid ⟨heap_alloc_new W _, (Below.refl _ _).alloc (Nat.le_refl _) _⟩
  go_enter Try.func4, Try.ntmps4
  go_wp2_with fail
  go_loopw [7, 9] (fun x i wr => ∃ j : Nat, i = .int .i64 (j : Int) ∧ j ≤ 2 ∧ (j < 2 → x = .pointer none) ∧ NoneSt11 W wr) (fun _ i _ => (2 - (intOf i).toNat))
  case atStart => exact ⟨0, rfl, by omega, fun _ => rfl, N0.out⟩
  case round =>
    obtain ⟨j, rfl, hj, hx, hN⟩ := hrel
    have NN := Lib.hid hN
    clear hN
    rcases (show j = 0 ∨ j = 1 ∨ j = 2 by omega) with rfl | rfl | rfl
    · obtain rfl := hx (by decide)
      have NO : Hid (∀ V, NoBud V none) := Lib.hid fun V => Or.inl rfl
      clear hx
      go_wp2_with (first | (go_at_call 17; refine (open_no none a b n _ (NO.out _)).mono ?_; rintro e w1 ⟨rfl, hb⟩; have N1 := Lib.hid (NN.out.step hb); clear hb) | (go_at_call 18; refine (close_no none a _ (NO.out _)).mono ?_; rintro e w2 ⟨rfl, hb⟩; have N2 := Lib.hid (N1.out.step hb); clear hb) | (go_at_call 19; refine (charge_no none a n _ (NO.out _)).mono ?_; rintro e w3 ⟨rfl, hb⟩; have N3 := Lib.hid (N2.out.step hb); clear hb) | (go_at_call 20; refine (refund_no none a n _ (NO.out _)).mono ?_; rintro e w4 ⟨rfl, hb⟩; have N4 := Lib.hid (N3.out.step hb); clear hb) | (go_at_call 13; refine (left_none none a _ (NO.out _)).mono ?_; rintro e w5 ⟨rfl, hb⟩; have N5 := Lib.hid (N4.out.step hb); clear hb) | (go_at_call 16; refine (allm11_no none _ (NO.out _)).mono ?_; rintro e w6 ⟨rfl, hb⟩; have N6 := Lib.hid (N5.out.step hb); clear hb))
      go_roundw
      case rel => exact ⟨1, by go_num, by omega, fun _ => rfl, N6.out⟩
      case measure => simp [intOf]
    · clear hx
      go_wp2_with (first | (go_at_call 17; refine (open_no _ a b n _ NN.out.no).mono ?_; rintro e w1 ⟨rfl, hb⟩; have N1 := Lib.hid (NN.out.step hb); clear hb) | (go_at_call 18; refine (close_no _ a _ N1.out.no).mono ?_; rintro e w2 ⟨rfl, hb⟩; have N2 := Lib.hid (N1.out.step hb); clear hb) | (go_at_call 19; refine (charge_no _ a n _ N2.out.no).mono ?_; rintro e w3 ⟨rfl, hb⟩; have N3 := Lib.hid (N2.out.step hb); clear hb) | (go_at_call 20; refine (refund_no _ a n _ N3.out.no).mono ?_; rintro e w4 ⟨rfl, hb⟩; have N4 := Lib.hid (N3.out.step hb); clear hb) | (go_at_call 13; refine (left_none _ a _ N4.out.no).mono ?_; rintro e w5 ⟨rfl, hb⟩; have N5 := Lib.hid (N4.out.step hb); clear hb) | (go_at_call 16; refine (allm11_no _ _ N5.out.no).mono ?_; rintro e w6 ⟨rfl, hb⟩; have N6 := Lib.hid (N5.out.step hb); clear hb))
      go_roundw
      case rel => exact ⟨2, by go_num, by omega, fun h => absurd h (by omega), N6.out⟩
      case measure => simp [intOf]
    · clear hx
      go_wp2_with fail
      refine (awake11 _).mono ?_
      rintro e w1 ⟨rfl, hb⟩
      have N1 := Lib.hid (NN.out.step hb)
      clear hb
      go_wp2
      go_ret
      exact ⟨rfl, N1.out.below⟩
end Go.Proofs.Ytedeifejokcleaa
