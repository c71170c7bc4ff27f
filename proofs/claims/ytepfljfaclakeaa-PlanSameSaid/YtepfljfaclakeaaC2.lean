/- The contracts of package conf's small functions: must, caught, within, pieces; lists of rows in memory. Conditions: named in the theorems. -/
import Derived.Test.YtepfljfaclakeaaC1
import Derived.Recover
import Derived.Laws.Pointers
namespace Go.Proofs.Ytepfljfaclakeaa
open Go.RowKit
set_option maxRecDepth 100000

/-- It left by panic, with an error. -/
abbrev badE (n : Int) : Ending := .panicked [{ v := .iface 29 (.int .i64 n), recovered := false }]
abbrev okRet : Ending := .returned (.tuple #[])
/-- It came back, or left with an error. -/
def endE (b : Bool) (n : Int) : Ending := if b then okRet else badE n
/-- It came back, if the error is none. -/
def endN (n : Int) : Ending := if n = 0 then okRet else badE n
theorem endE_true (n : Int) : endE true n = okRet := rfl
theorem endE_false (n : Int) : endE false n = badE n := rfl

theorem must_yes (n : Int) (w : World) : Calls Try.prog 42 #[.bool true, .int .i64 n] w fun e w' => e = okRet ∧ w = w' := by
  go_enter Try.func42, Try.ntmps42
  go_wp2
  go_end0
  exact ⟨rfl, rfl⟩
theorem must_no (n : Int) (w : World) : Calls Try.prog 42 #[.bool false, .int .i64 n] w fun e w' => e = badE n ∧ w = w' := by
  go_enter Try.func42, Try.ntmps42
  go_wp2
  exact ⟨rfl, rfl, rfl⟩
theorem must_any (b : Bool) (n : Int) (w : World) : Calls Try.prog 42 #[.bool b, .int .i64 n] w fun e w' => e = endE b n ∧ w = w' := by
  cases b with
  | true => exact must_yes n w
  | false => exact must_no n w
theorem within_ok (n lo hi : Int) (w : World) : Calls Try.prog 44 #[.int .i64 n, .int .i64 lo, .int .i64 hi] w fun e w' => e = .returned (.bool (inB n lo hi)) ∧ w = w' := by
  unfold inB
  by_cases h : lo ≤ n
  · have h1 : decide (lo ≤ n) = true := decide_eq_true h
    rw [h1, Bool.true_and]
    clear h1
    go_enter Try.func44, Try.ntmps44
    go_wp2
    go_ret
    exact ⟨rfl, rfl⟩
  · have h1 : decide (lo ≤ n) = false := decide_eq_false h
    rw [h1, Bool.false_and]
    clear h1
    go_enter Try.func44, Try.ntmps44
    go_wp2
    go_ret
    exact ⟨rfl, rfl⟩
theorem pieces_ok (n k : Int) (h0 : 0 ≤ n) (h1 : n ≤ 1000000) (h2 : 1 ≤ k) (h3 : k ≤ 1000) (w : World) : Calls Try.prog 53 #[.int .i64 n, .int .i64 k] w fun e w' => e = .returned (.int .i64 ((n + k - 1) / k)) ∧ w = w' := by
  have hd : (n + k - 1).tdiv k = (n + k - 1) / k := Int.tdiv_eq_ediv_of_nonneg (by omega)
  have hk : ¬ k = 0 := by omega
  have b1 : 0 ≤ (n + k - 1) / k := Int.ediv_nonneg (by omega) (by omega)
  have b2 : (n + k - 1) / k ≤ n + k - 1 := Int.ediv_le_self _ (by omega)
  generalize (n + k - 1) / k = q at *
  go_enter Try.func53, Try.ntmps53
  go_wp2
  go_ret
  exact ⟨rfl, rfl⟩

theorem assert_err (n : Int) (w : World) : (Instr.typeAssert (.iface 29 (.int .i64 n)) 20 29 false).run Try.prog w = .ok (.int .i64 n) w := by kernel_rfl
theorem catch_panicking (p : Addr) (n : Int) (x : Value) (w : World) (hc : w.cell? p = some x) (hz : w.frozen? p = false) :
    CallsD Try.prog 41 #[.pointer (some p)] (.panicking [{ v := .iface 29 (.int .i64 n), recovered := false }]) w fun e u' w' =>
      e = okRet ∧ u' = .panicking [{ v := .iface 29 (.int .i64 n), recovered := true }] ∧ w' = w.setCell p (.int .i64 n) := by
  refine callsD_of_wpS Try.func41 rfl fun c₀ cs hu => ?_
  apply wpS_seq
  apply wpS_region
  simp [wpOpsS, go_sem, recoverD, hu, Try.ntmps41, Exit.thenS]
  apply wpS_seq
  apply wpS_region
  simp [wpOpsS, go_sem, Exit.thenS]
  refine wpS_cond (t := true) (by simp [Act.eval, Array.replicate]) ?_
  simp only [if_true]
  apply wpS_region
  simp [wpOpsS, go_sem, assert_err, hc, hz, bodyPostS, results, Try.results41]
theorem catch_idle (p : Addr) (w : World) : CallsD Try.prog 41 #[.pointer (some p)] .returning w fun e u' w' => e = okRet ∧ u' = .returning ∧ w' = w := by
  refine callsD_of_wpS Try.func41 rfl fun c₀ cs hu => ?_
  apply wpS_seq
  apply wpS_region
  simp [wpOpsS, go_sem, recoverD, hu, Try.ntmps41, Exit.thenS]
  apply wpS_seq
  apply wpS_region
  simp [wpOpsS, go_sem, Exit.thenS]
  refine wpS_cond (t := false) (by simp [Act.eval, Array.replicate]) ?_
  simp only [Bool.false_eq_true, if_false]
  refine wpS_of_wp (wp_skip ?_)
  cases c₀
  simp_all [bodyPostS, results, Try.results41]

theorem cell_set_same (w : World) (a : Addr) (u v : Value) (h : w.cell? a = some u) : (w.setCell a v).cell? a = some v := World.cell?_setCell_same' w a v (by rw [h]; rfl)
/-- What is done is done in a world with a variable more: it tells the error. -/
theorem caught_ok (k : Nat) (caps : Array Value) (hent : ∀ (args : Array Value) (W : World), (callFunc k args).run Try.prog W = .ok (.enter k args) W) (n : Int) (w : World) (Q : World → Prop)
    (hdo : Calls Try.prog k caps (w.alloc (.cells #[.int .i64 0] 29)) fun e w' => e = endN n ∧ Q w')
    (hbox : ∀ w', Q w' → ∃ x, w'.heap[w.heap.size]? = some (.cells #[.int .i64 x] 29 (0, 0))) :
    Calls Try.prog 30 #[.func (.func k) #[] caps] w fun e w' => e = .returned (.int .i64 n) ∧ ∃ w1, Q w1 ∧ w' = w1.setCell ⟨w.heap.size, 0, none⟩ (.int .i64 n) := by
  have hmf : ∀ (fn : Fn) (first cap : Array Value) (w : World), (Instr.makeFunc fn first cap).run Try.prog w = .ok (.func fn first cap) w := fun _ _ _ _ => rfl
  have HD := Lib.hid hdo
  have HB := Lib.hid hbox
  clear hdo hbox
  go_enter_defers Try.func30, Try.ntmps30
  go_wp2_with fail
  refine HD.out.mono ?_
  rintro e w1 ⟨rfl, hq⟩
  obtain ⟨x, hx⟩ := HB.out w1 hq
  have HQ := Lib.hid hq
  clear hq
  have c0 : w1.cell? ⟨w.heap.size, 0, none⟩ = some (.int .i64 x) := by rw [cell_of_row w1 _ _ _ _ _ hx]; rfl
  have f0 : w1.frozen? ⟨w.heap.size, 0, none⟩ = false := frozen_of_row w1 _ 0 _ _ hx
  by_cases hn : n = 0
  · subst hn
    rw [show endN 0 = okRet from rfl]
    go_wp2
    refine leaves_cons (f := 41) (args := #[.pointer (some ⟨w.heap.size, 0, none⟩)]) (by simp) (by simp [go_sem]) ?_
    refine (catch_idle ⟨w.heap.size, 0, none⟩ _).mono ?_
    rintro e u' w'' ⟨rfl, rfl, rfl⟩
    have c1 := cell_set_same w1 _ _ (.int .i64 0) c0
    simp [Leaves, settle, results, Try.results30, go_sem, c1]
    exact ⟨w1, HQ.out, rfl⟩
  · rw [show endN n = badE n from by simp [endN, hn]]
    go_wp2
    refine leaves_cons (f := 41) (args := #[.pointer (some ⟨w.heap.size, 0, none⟩)]) (by simp) (by simp [go_sem]) ?_
    refine (catch_panicking ⟨w.heap.size, 0, none⟩ n _ _ c0 f0).mono ?_
    rintro e u' w'' ⟨rfl, rfl, rfl⟩
    have c1 := cell_set_same w1 _ _ (.int .i64 n) c0
    simp [Leaves, settle, results, Try.results30, go_sem, c1]
    exact ⟨w1, HQ.out, rfl⟩
end Go.Proofs.Ytepfljfaclakeaa
