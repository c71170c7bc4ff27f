/- The contract of package ring's guard. Condition: the ring lies as New laid it; what is done is a function that does not panic. -/
import Derived.Test.YtolefcbhiajbbaaG2
import Derived.Test.YtolefcbhiajbbaaR5
namespace Go.Proofs.Ytolefcbhiajbbaa
open Go.RowKit
set_option maxRecDepth 100000

theorem rngTy : RowTy 57 4 := ⟨⟨_, Try.underlying57, rfl⟩, by kernel_rfl⟩
theorem rngOne (c d f m : Nat) : (rngA c d f m).all (·.oneCell') = true := by simp [rngA, Value.oneCell']
theorem guard_idle (p q r : Addr) (w : World) : CallsD Try.prog 32 #[.pointer (some p), .pointer (some q), .pointer (some r)] .returning w fun e u' w' => e = .returned (.tuple #[]) ∧ u' = .returning ∧ w' = w := by
  refine callsD_of_wpS Try.func32 rfl fun c₀ cs hu => ?_
  apply wpS_seq
  apply wpS_region
  simp [wpOpsS, go_sem, recoverD, hu, Try.ntmps32, Exit.thenS]
  refine wpS_cond (t := false) (by simp [Act.eval, Array.replicate]) ?_
  simp only [Bool.false_eq_true, if_false]
  refine wpS_of_wp (wp_skip ?_)
  cases c₀
  simp_all [bodyPostS, results, Try.results32]
theorem cell_set_sameG (w : World) (a : Addr) (u v : Value) (h : w.cell? a = some u) : (w.setCell a v).cell? a = some v := World.cell?_setCell_same' w a v (by rw [h]; rfl)
/-- What is done is done in a world with three variables more. -/
theorem guard_okG {w : World} {b c d f m : Nat} (R : RngAt w b c d f m) (k : Nat) (caps : Array Value) (hent : ∀ (args : Array Value) (W : World), (callFunc k args).run Try.prog W = .ok (.enter k args) W) (Q : World → Prop) (B : Nat → Prop) (hB : ∀ j, B j → j < w.heap.size)
    (hdo : ∀ V, Below w.heap.size w V → w.heap.size + 3 ≤ V.heap.size → Calls Try.prog k caps V fun e w' => e = .returned (.tuple #[]) ∧ Q w' ∧ Only V w' B) :
    Calls Try.prog 24 #[.pointer (some ⟨b, 0, none⟩), .func (.func k) #[] caps] w fun e w' => e = .returned (.int .i64 0) ∧ ∃ w1, Q w1 ∧ Only w w1 B ∧ w.heap.size + 1 < w1.heap.size ∧ w' = w1.setCell ⟨w.heap.size + 1, 0, none⟩ (.int .i64 0) := by
  have hmf : ∀ (fn : Fn) (first cap : Array Value) (w : World), (Instr.makeFunc fn first cap).run Try.prog w = .ok (.func fn first cap) w := fun _ _ _ _ => rfl
  have HD := Lib.hid hdo
  have HB := Lib.hid hB
  have R0 := Lib.hid R
  clear hdo hB R
  obtain ⟨V0, hV0⟩ : ∃ V0, V0 = (w.alloc (.cells #[.pointer (some ⟨b, 0, none⟩)] 24)).alloc (.cells #[.int .i64 0] 25) := ⟨_, rfl⟩
  have sz0 : V0.heap.size = w.heap.size + 2 := by rw [hV0]; simp
  have B0 : Hid (Below w.heap.size w V0) := Lib.hid (by rw [hV0]; exact below_two _ _ _)
  have E0 : Hid (V0.heap[w.heap.size + 1]? = some (.cells #[.int .i64 0] 25 (0, 0))) := Lib.hid (by rw [hV0]; exact heap_alloc2_new _ _ _)
  have X0 : Hid (V0.heap[b]? = some (.cells (rngA c d f m) 57 (0, 0))) := Lib.hid (R0.out.below B0.out).box
  have N1 := Lib.hid (heap_alloc_new V0 (.cells #[.int .i64 0, .int .i64 0, .int .i64 0, .int .i64 0] 57))
  rw [sz0] at N1
  have V1 : Hid (Below w.heap.size w ((V0.alloc (.cells #[.int .i64 0, .int .i64 0, .int .i64 0, .int .i64 0] 57)).setRow (w.heap.size + 2) (rngA c d f m))) := Lib.hid (below_setRow (B0.out.alloc B0.out.size _) (by omega) _)
  have E1 : Hid (((V0.alloc (.cells #[.int .i64 0, .int .i64 0, .int .i64 0, .int .i64 0] 57)).setRow (w.heap.size + 2) (rngA c d f m)).heap[w.heap.size + 1]? = some (.cells #[.int .i64 0] 25 (0, 0))) := Lib.hid (rowOtherJ _ _ (by omega) ((heap_alloc_old _ _ (lt_of_block E0.out)).trans E0.out))
  have HV := Lib.hid hV0
  clear hV0
  go_enter_defers Try.func24, Try.ntmps24
  go_wp2_with (first | (refine wpR_load rngTy rfl (.tmp 7) rfl b rfl (rngA c d f m) (by have := X0.out; rwa [HV.out] at this) rfl ?_) | (refine wpR_store rngTy rfl (.tmp 5) (.tmp 8) rfl (w.heap.size + 2) (rngA c d f m) rfl rfl _ (by have := N1.out; rwa [HV.out] at this) rfl rfl (rngOne c d f m) ?_))
  rw [← HV.out]
  refine (HD.out _ V1.out (by simp [World.setRow]; omega)).mono ?_
  rintro e w1 ⟨rfl, hq, ho⟩
  have HQ := Lib.hid hq
  have O1 : Hid (Only w w1 B) := Lib.hid ⟨ho.os.trans V1.out.os, ho.tape.trans V1.out.tape, ho.output.trans V1.out.output, Nat.le_trans V1.out.size ho.size, fun j hj hb => (ho.block j (Nat.lt_of_lt_of_le hj V1.out.size) hb).trans (V1.out.block j hj)⟩
  have x1 : w1.heap[w.heap.size + 1]? = some (.cells #[.int .i64 0] 25 (0, 0)) := ho.kept E1.out (fun h => by have := HB.out _ h; omega)
  have S1 := Lib.hid (lt_of_block x1)
  have c0 := cell_of_one x1
  have f0 : w1.frozen? ⟨w.heap.size + 1, 0, none⟩ = false := frozen_of_row w1 _ 0 _ _ x1
  clear hq ho x1
  go_wp2
  refine leaves_cons (f := 32) (args := #[.pointer (some ⟨w.heap.size + 2, 0, none⟩), .pointer (some ⟨w.heap.size, 0, none⟩), .pointer (some ⟨w.heap.size + 1, 0, none⟩)]) (by simp) (by simp [go_sem]) ?_
  refine (guard_idle _ _ _ _).mono ?_
  rintro e u' w'' ⟨rfl, rfl, rfl⟩
  have c1 := cell_set_sameG w1 _ _ (.int .i64 0) c0
  simp [Leaves, settle, results, Try.results24, go_sem, c1]
  exact ⟨w1, HQ.out, O1.out, S1.out, rfl⟩
end Go.Proofs.Ytolefcbhiajbbaa
