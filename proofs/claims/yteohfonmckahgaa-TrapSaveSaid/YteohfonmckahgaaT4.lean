/- The contracts of package trap's begin, and of Of over a row. Conditions: the memory lies as made, or there is none. -/
import Derived.Test.YteohfonmckahgaaT3
namespace Go.Proofs.Yteohfonmckahgaa
open Go.RowKit
set_option maxRecDepth 100000

/-- What Of of a slice of these words answers. -/
theorem of_row (v : Value) (T : List Int) (w : World) (hT : T.length = 10) (h : RowAt w v T) : Calls Try.prog 9 #[v] w fun e w' => e = .returned (.tuple #[.agg (wordsV T), .int .i64 0]) ∧ Below w.heap.size w w' := by
  obtain ⟨a, c, rfl, h⟩ := h
  match T, hT, h with
  | [t0, t1, t2, t3, t4, t5, t6, t7, t8, t9], _, h =>
    obtain ⟨b, o, rfl, hlt, hc⟩ := h.resolve_left (by simp)
    exact of_ok b o c t0 t1 t2 t3 t4 t5 t6 t7 t8 t9 w hlt hc
def ofT (L : List Int) : List Int := if L.length = 10 then L else z10
def ofE (L : List Int) : Int := if L.length = 10 then 0 else 2
theorem ofT_len (L : List Int) : (ofT L).length = 10 := by unfold ofT; split <;> simp_all [z10]
theorem of_any (v : Value) (L : List Int) (w : World) (h : RowAt w v L) : Calls Try.prog 9 #[v] w fun e w' => e = .returned (.tuple #[.agg (wordsV (ofT L)), .int .i64 (ofE L)]) ∧ Below w.heap.size w w' := by
  unfold ofT ofE
  by_cases hL : L.length = 10
  · rw [if_pos hL, if_pos hL]
    exact of_row v L w hL h
  · rw [if_neg hL, if_neg hL]
    obtain ⟨a, c, rfl, h⟩ := h
    exact of_bad a L.length c w hL

set_option maxHeartbeats 1000000 in
/-- Where the memory refuses the frame, begin tells its error. -/
theorem begin_err (k : Int) (hk : (k == 0) = false) (p : Option Addr) (f s : Int) (w : World) (hr : Calls Try.prog 22 #[.pointer p, .int .i64 f, .int .i64 0] w fun e w' => e = .returned (.tuple #[.int .u32 0, .int .i64 k]) ∧ Below w.heap.size w w') :
    Calls Try.prog 27 #[.pointer p, .int .i64 f, .int .i64 s] w fun e w' => e = .returned (.tuple #[.int .i64 0, .int .i64 k]) ∧ Below w.heap.size w w' := by
  have hk1 : (k != 0) = true := by simp at hk ⊢; exact hk
  have HR := Lib.hid hr
  clear hr
  go_enter Try.func27, Try.ntmps27
  go_wp2_with fail
  refine HR.out.mono ?_
  rintro e w1 ⟨rfl, hb⟩
  have HB := Lib.hid hb
  clear hb
  go_wp2
  go_ret2
  exact ⟨rfl, HB.out⟩
theorem begin_no (p : Option Addr) (f s : Int) (w : World) (hp : NoMem w p) :
    Calls Try.prog 27 #[.pointer p, .int .i64 f, .int .i64 s] w fun e w' => e = .returned (.tuple #[.int .i64 0, .int .i64 1]) ∧ Below w.heap.size w w' :=
  begin_err 1 rfl p f s w (read_no p f 0 w hp)
set_option maxHeartbeats 1000000 in
theorem begin_slot (mp fb n : Nat) (L : List Int) (f s : Int) (w : World) (hm : MemSt w mp fb n L) (hf : okFQ n f 0) (hs : s < 0 ∨ 3 ≤ s) :
    Calls Try.prog 27 #[.pointer (some ⟨mp, 0, none⟩), .int .i64 f, .int .i64 s] w fun e w' => e = .returned (.tuple #[.int .i64 0, .int .i64 2]) ∧ Below w.heap.size w w' := by
  have HM := Lib.hid hm
  have HF := Lib.hid hf
  clear hm hf
  rcases hs with hs | hs
  all_goals
    try have hd : decide (s < 0) = false := decide_eq_false (by omega)
    go_enter Try.func27, Try.ntmps27
    go_wp2_with fail
    refine (read_i mp fb n L f 0 w HM.out HF.out).mono ?_
    rintro e w1 ⟨rfl, hb⟩
    have HB := Lib.hid hb
    clear hb
    go_wp2
    go_ret2
    exact ⟨rfl, HB.out⟩
theorem begin_bad (mp fb n : Nat) (L : List Int) (f s : Int) (w : World) (hm : MemSt w mp fb n L) (h : ¬ (okFQ n f 0 ∧ 0 ≤ s ∧ s < 3)) :
    Calls Try.prog 27 #[.pointer (some ⟨mp, 0, none⟩), .int .i64 f, .int .i64 s] w fun e w' => e = .returned (.tuple #[.int .i64 0, .int .i64 2]) ∧ Below w.heap.size w w' := by
  by_cases hf : okFQ n f 0
  · exact begin_slot mp fb n L f s w hm hf (by rcases Classical.em (s < 0 ∨ 3 ≤ s) with h1 | h1; exact h1; exact absurd ⟨hf, by omega, by omega⟩ h)
  · exact begin_err 2 rfl _ f s w (read_bad mp fb n L f 0 w hm hf)
set_option maxHeartbeats 1000000 in
theorem begin_ok (mp fb n s q : Nat) (L : List Int) (f : Int) (w : World) (hm : MemSt w mp fb n L) (hf : okFQ n f 0) (hs : s < 3) (hq : q = 10 * s) :
    Calls Try.prog 27 #[.pointer (some ⟨mp, 0, none⟩), .int .i64 f, .int .i64 s] w fun e w' => e = .returned (.tuple #[.int .i64 q, .int .i64 0]) ∧ Below w.heap.size w w' := by
  subst hq
  have HM := Lib.hid hm
  have HF := Lib.hid hf
  have hs' : (s : Int) < 3 := by omega
  have hd : decide ((s : Int) < 0) = false := decide_eq_false (by omega)
  clear hm hf
  go_enter Try.func27, Try.ntmps27
  go_wp2_with fail
  refine (read_i mp fb n L f 0 w HM.out HF.out).mono ?_
  rintro e w1 ⟨rfl, hb⟩
  have HB := Lib.hid hb
  clear hb
  go_wp2
  go_ret2
  exact ⟨by go_num, HB.out⟩
end Go.Proofs.Yteohfonmckahgaa
