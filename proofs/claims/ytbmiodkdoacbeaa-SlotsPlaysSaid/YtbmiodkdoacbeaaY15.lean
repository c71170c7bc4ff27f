/- The walk of SlotsNone. No condition. -/
import Derived.Test.YtbmiodkdoacbeaaY14
namespace Go.Proofs.Ytbmiodkdoacbeaa
open Go.RowKit Go.Maps
set_option maxRecDepth 100000

theorem tabInfo : (Try.prog.info? 49).map (fun i => (i.zero, i.size)) = some (some (.agg #[.int .i64 0, .map none]), 2) := by kernel_rfl
theorem tabZero (w : World) : (zeroValue 49).run Try.prog w = .ok (.agg #[.int .i64 0, .map none]) w := (zero_of_info tabInfo).1 w
structure NoneSt13 (W wr : World) : Prop where
  box : wr.heap[W.heap.size]? = some (.cells #[.int .i64 0, .map none] 49 (0, 0))
  below : Below W.heap.size W wr
theorem NoneSt13.step {W w w' : World} (h : NoneSt13 W w) (hb : Below w.heap.size w w') : NoneSt13 W w' := ⟨below_block hb h.box, h.below.trans (hb.mono h.below.size)⟩
theorem NoneSt13.no {W w : World} (h : NoneSt13 W w) : NoTab w (some ⟨W.heap.size, 0, none⟩) := Or.inr ⟨_, rfl, by rw [cell_of_row _ _ _ _ _ _ h.box]; rfl⟩
theorem NoneSt13.lt {W w : World} (h : NoneSt13 W w) : ∀ b, (some ⟨W.heap.size, 0, none⟩ : Option Addr) = some ⟨b, 0, none⟩ → b < w.heap.size := fun b e => by
  have := lt_of_block h.box
  cases e
  exact this
set_option maxHeartbeats 8000000 in
theorem slotsNone_walk (pid c : Int) (W : World) (_ : I64 pid) (_ : 0 ≤ c ∧ c ≤ 4294967295) : Calls Try.prog 4 #[.int .i64 pid, .int .u32 c] W fun e w' => e = .returned (.bool true) ∧ Below W.heap.size W w' := by
  have hz := tabZero
  have N0 : Hid (NoneSt13 W (W.alloc (.cells #[.int .i64 0, .map none] 49))) := Lib.hid ⟨heap_alloc_new W _, (Below.refl _ _).alloc (Nat.le_refl _) _⟩
  go_enter Try.func4, Try.ntmps4
  go_wp2_with fail
  go_loopw [5, 7] (fun x i wr => ∃ j : Nat, i = .int .i64 (j : Int) ∧ j ≤ 2 ∧ (j < 2 → x = .pointer none) ∧ NoneSt13 W wr) (fun _ i _ => (2 - (intOf i).toNat))
  case atStart => exact ⟨0, rfl, by omega, fun _ => rfl, N0.out⟩
  case round =>
    obtain ⟨j, rfl, hj, hx, hN⟩ := hrel
    have NN := Lib.hid hN
    clear hN
    rcases (show j = 0 ∨ j = 1 ∨ j = 2 by omega) with rfl | rfl | rfl
    · obtain rfl := hx (by decide)
      have NO : Hid (∀ V, NoTab V none) := Lib.hid fun V => Or.inl rfl
      clear hx
      go_wp2_with (first
        | (go_at_call 17; refine (addY_no none pid _ (NO.out _)).mono ?_; rintro e w1 ⟨rfl, rfl⟩)
        | (go_at_call 18; refine (exitY_no none pid c _ (NO.out _)).mono ?_; rintro e w1 ⟨rfl, rfl⟩)
        | (go_at_call 19; refine (waitY_no none pid _ (NO.out _)).mono ?_; rintro e w1 ⟨rfl, rfl⟩)
        | (go_at_call 15; refine (getY_no none pid _ (NO.out _) (fun _ e => by cases e)).mono ?_; rintro e w4 ⟨rfl, hb⟩; have N4 := Lib.hid (NN.out.step hb); clear hb; unfold prV)
        | (go_at_call 14; refine (allY_no none _ (NO.out _)).mono ?_; rintro e w5 ⟨rfl, rfl⟩))
      go_roundw
      case rel => exact ⟨1, by go_num, by omega, fun _ => rfl, N4.out.step ((Below.refl _ _).alloc (Nat.le_refl _) _)⟩
      case measure => simp [intOf]
    · clear hx
      go_wp2_with (first
        | (go_at_call 17; refine (addY_no _ pid _ NN.out.no).mono ?_; rintro e w1 ⟨rfl, rfl⟩)
        | (go_at_call 18; refine (exitY_no _ pid c _ NN.out.no).mono ?_; rintro e w1 ⟨rfl, rfl⟩)
        | (go_at_call 19; refine (waitY_no _ pid _ NN.out.no).mono ?_; rintro e w1 ⟨rfl, rfl⟩)
        | (go_at_call 15; refine (getY_no _ pid _ NN.out.no NN.out.lt).mono ?_; rintro e w4 ⟨rfl, hb⟩; have N4 := Lib.hid (NN.out.step hb); clear hb; unfold prV)
        | (go_at_call 14; refine (allY_no _ _ (N4.out.step ((Below.refl _ _).alloc (Nat.le_refl _) _)).no).mono ?_; rintro e w5 ⟨rfl, rfl⟩))
      go_roundw
      case rel => exact ⟨2, by go_num, by omega, fun h => absurd h (by omega), N4.out.step ((Below.refl _ _).alloc (Nat.le_refl _) _)⟩
      case measure => simp [intOf]
    · clear hx
      go_wp2_with fail
      refine (awake13 _).mono ?_
      rintro e w1 ⟨rfl, hb⟩
      have N1 := Lib.hid (NN.out.step hb)
      clear hb
      go_wp2
      go_ret
      exact ⟨rfl, N1.out.below⟩
end Go.Proofs.Ytbmiodkdoacbeaa
