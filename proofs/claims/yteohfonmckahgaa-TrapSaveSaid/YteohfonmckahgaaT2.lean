/- The contract of package trap's Words. No condition. -/
import Derived.Test.YteohfonmckahgaaT1
import Derived.Deep.MidRow
namespace Go.Proofs.Yteohfonmckahgaa
open Go.RowKit
set_option maxRecDepth 100000

theorem trapUnder : ∃ d, Try.prog.underlying 26 = some d ∧ d.isRow = true := ⟨_, Try.underlying26, rfl⟩
theorem trapInfo : (Try.prog.info? 26).map (fun i => (i.zero, i.size)) = some (some (.agg (wordsV (List.replicate 10 0))), 10) := by kernel_rfl
theorem trapZero (w : World) : (zeroValue 26).run Try.prog w = .ok (.agg (wordsV (List.replicate 10 0))) w := (zero_of_info trapInfo).1 w
theorem trapSize : (Try.prog.info? 26).map (·.size) = some 10 := (zero_of_info trapInfo).2
theorem regsUnder : ∃ d, Try.prog.underlying 24 = some d ∧ d.isRow = true := ⟨_, Try.underlying24, rfl⟩
theorem regsInfo : (Try.prog.info? 24).map (fun i => (i.zero, i.size)) = some (some (.agg (wordsV (List.replicate 8 0))), 8) := by kernel_rfl
theorem regsZero (w : World) : (zeroValue 24).run Try.prog w = .ok (.agg (wordsV (List.replicate 8 0))) w := (zero_of_info regsInfo).1 w
theorem regsSize : (Try.prog.info? 24).map (·.size) = some 8 := (zero_of_info regsInfo).2

/-- The registers are indexed by a number. -/
theorem idxRegs (R : List Int) (hR : R.length = 8) (k : Nat) (hk : k < 8) (w : World) : (Instr.index 24 (.agg (wordsV R)) (.int .i64 k)).run Try.prog w = .ok (.int .u32 (R.getD k 0)) w := by
  have hk' : (k : Int) < 8 := by omega
  match R, hR, k, hk with
  | [a0, a1, a2, a3, a4, a5, a6, a7], _, 0, _ => simp [Instr.index, run_underlying Try.underlying24, asIntOf, go_sem, wordsV]
  | [a0, a1, a2, a3, a4, a5, a6, a7], _, 1, _ => simp [Instr.index, run_underlying Try.underlying24, asIntOf, go_sem, wordsV]
  | [a0, a1, a2, a3, a4, a5, a6, a7], _, 2, _ => simp [Instr.index, run_underlying Try.underlying24, asIntOf, go_sem, wordsV]
  | [a0, a1, a2, a3, a4, a5, a6, a7], _, 3, _ => simp [Instr.index, run_underlying Try.underlying24, asIntOf, go_sem, wordsV]
  | [a0, a1, a2, a3, a4, a5, a6, a7], _, 4, _ => simp [Instr.index, run_underlying Try.underlying24, asIntOf, go_sem, wordsV]
  | [a0, a1, a2, a3, a4, a5, a6, a7], _, 5, _ => simp [Instr.index, run_underlying Try.underlying24, asIntOf, go_sem, wordsV]
  | [a0, a1, a2, a3, a4, a5, a6, a7], _, 6, _ => simp [Instr.index, run_underlying Try.underlying24, asIntOf, go_sem, wordsV]
  | [a0, a1, a2, a3, a4, a5, a6, a7], _, 7, _ => simp [Instr.index, run_underlying Try.underlying24, asIntOf, go_sem, wordsV]

section
variable {ops : Array Oper} {rest : List Oper} {op : Oper} {a : Act} {w : World} {Q : Exit → Act → World → Prop}
/-- The registers of a trap that lies in a block. -/
theorem wpList_load_regs (hgd : op.guard = none) (x : Operand) (ho : op.op = .load 24 x) (b : Nat) (T : List Int) (t : TypeId) (hx : a.eval x = .pointer (some ⟨b, 0, none⟩)) (hg : w.heap[b]? = some (.cells (wordsV T) t (0, 0))) (hT : T.length = 10)
    (h : wpList Try.prog ops Q rest (a.put op.dst (.agg (wordsV (T.take 8)))) w) : wpList Try.prog ops Q (op :: rest) a w := by
  obtain ⟨d, h1, h2⟩ := regsUnder
  refine wpList_load_mid hgd 24 x ho b 0 hx ((T.take 8).map (Value.int .u32)) d (fun j v hv => ?_) h1 h2 (by rw [regsSize]; simp [hT]) h
  rw [cell_of_row w b _ _ _ _ hg, Nat.zero_add]
  have hj : j < 8 := by have := (List.getElem?_eq_some_iff.1 hv).1; simp [hT] at this; exact this
  rw [← hv]
  simp [wordsV, hj]
theorem wpList_load_trap (hgd : op.guard = none) (x : Operand) (ho : op.op = .load 26 x) (b : Nat) (T : List Int) (t : TypeId) (hx : a.eval x = .pointer (some ⟨b, 0, none⟩)) (hg : w.heap[b]? = some (.cells (wordsV T) t (0, 0))) (hT : T.length = 10)
    (h : wpList Try.prog ops Q rest (a.put op.dst (.agg (wordsV T))) w) : wpList Try.prog ops Q (op :: rest) a w := by
  obtain ⟨d, h1, h2⟩ := trapUnder
  refine wpList_load_row hgd 26 x ho b hx t (wordsV T) (0, 0) d hg h1 ?_ (by rw [trapSize, wordsV_size, hT]) h
  cases d <;> simp_all
theorem wpList_store_trap (hgd : op.guard = none) (x y : Operand) (ho : op.op = .store 26 x y) (b : Nat) (T R : List Int) (t : TypeId) (hx : a.eval x = .pointer (some ⟨b, 0, none⟩)) (hy : a.eval y = .agg (wordsV R)) (hg : w.heap[b]? = some (.cells (wordsV T) t (0, 0))) (hT : T.length = 10) (hR : R.length = 10)
    (h : wpList Try.prog ops Q rest (a.put op.dst undef) (w.setRow b (wordsV R))) : wpList Try.prog ops Q (op :: rest) a w :=
  wpList_store_row hgd 26 x y ho b (wordsV R) hx hy t (wordsV T) hg (by rw [trapSize, wordsV_size, hR]) (by rw [wordsV_size, wordsV_size, hT, hR]) (wordsV_one R) h
end

theorem make_ten (w : World) : (Instr.makeSlice 27 (.int .i64 10) (.int .i64 10)).run Try.prog w = .ok (.slice (some ⟨w.heap.size, 0, none⟩) 10 10) (w.alloc (.cells (wordsV (List.replicate 10 0)) 23)) := make_words 10 (by decide) w

/-- What stands in a row of ten words behind k of them were put. -/
theorem putting (T : List Int) (hT : T.length = 10) (k : Nat) (hk : k < 10) : (T.take k ++ List.replicate (10 - k) 0).set k (T.getD k 0) = T.take (k + 1) ++ List.replicate (10 - (k + 1)) 0 := by
  match T, hT, k, hk with
  | [a0, a1, a2, a3, a4, a5, a6, a7, a8, a9], _, 0, _ => rfl
  | [a0, a1, a2, a3, a4, a5, a6, a7, a8, a9], _, 1, _ => rfl
  | [a0, a1, a2, a3, a4, a5, a6, a7, a8, a9], _, 2, _ => rfl
  | [a0, a1, a2, a3, a4, a5, a6, a7, a8, a9], _, 3, _ => rfl
  | [a0, a1, a2, a3, a4, a5, a6, a7, a8, a9], _, 4, _ => rfl
  | [a0, a1, a2, a3, a4, a5, a6, a7, a8, a9], _, 5, _ => rfl
  | [a0, a1, a2, a3, a4, a5, a6, a7, a8, a9], _, 6, _ => rfl
  | [a0, a1, a2, a3, a4, a5, a6, a7, a8, a9], _, 7, _ => rfl
  | [a0, a1, a2, a3, a4, a5, a6, a7, a8, a9], _, 8, _ => rfl
  | [a0, a1, a2, a3, a4, a5, a6, a7, a8, a9], _, 9, _ => rfl
theorem take8_getD (T : List Int) (k : Nat) (hk : k < 8) : (T.take 8).getD k 0 = T.getD k 0 := by
  simp [List.getD_eq_getElem?_getD, hk]

theorem CurSt.step {W w w' : World} {cb wb k : Nat} {L : List Int} (h : CurSt W w cb wb k L) (hb : Below w.heap.size w w') : CurSt W w' cb wb k L :=
  ⟨h.below.trans (hb.mono h.below.size), below_block hb h.box, below_block hb h.row, h.len, h.ne, h.lc, h.lw⟩

theorem CurSt.start (w : World) (T : List Int) : CurSt w ((w.alloc (.cells (wordsV [0, 0, 0, 0, 0, 0, 0, 0, 0, 0]) 23)).alloc (.cells #[.slice (some ⟨w.heap.size, 0, none⟩) 10 10, .int .i64 0] 58)) (w.heap.size + 1) w.heap.size 0 (T.take 0 ++ List.replicate (10 - 0) 0) :=
  ⟨below_two _ _ _, heap_alloc2_new _ _ _, heap_alloc2_old _ _ _, rfl, by omega, by omega, Nat.le_refl _⟩
theorem boxed3 (w : World) (o p q : Obj) : (((w.alloc o).alloc p).alloc q).heap[w.heap.size]? = some o := by
  rw [heap_alloc_old _ _ (by simp; omega), heap_alloc_old _ _ (by simp)]
  exact heap_alloc_new w o

def WordsRel (W : World) (cb wb : Nat) (T : List Int) (i : Value) (wr : World) : Prop := ∃ k : Nat, i = .int .i64 k ∧ k ≤ 8 ∧ CurSt W wr cb wb k (T.take k ++ List.replicate (10 - k) 0)
def WordsPost (w : World) (T : List Int) (e : Ending) (w' : World) : Prop := ∃ b, e = .returned (.slice (some ⟨b, 0, none⟩) 10 10) ∧ w.heap.size ≤ b ∧ w'.heap[b]? = some (.cells (wordsV T) 23 (0, 0)) ∧ Below w.heap.size w w'
set_option maxHeartbeats 2000000 in
theorem words_ok (T : List Int) (hT : T.length = 10) (w : World) : Calls Try.prog 12 #[.agg (wordsV T)] w (WordsPost w T) := by
  have hmf : ∀ (fn : Fn) (first cap : Array Value) (w : World), (Instr.makeFunc fn first cap).run Try.prog w = .ok (.func fn first cap) w := fun _ _ _ _ => rfl
  have hmk := make_ten
  have HT := Lib.hid hT
  clear hT
  go_enter Try.func12, Try.ntmps12
  go_wp2_with (refine wpList_load_regs rfl (.tmp 10) rfl w.heap.size T 26 rfl (boxed3 w _ _ _) HT.out ?_)
  obtain ⟨w1, hw1⟩ : ∃ w1, w1 = w.alloc (.cells (wordsV T) 26) := ⟨_, rfl⟩
  have B1 : Hid (Below w.heap.size w w1) := Lib.hid (by rw [hw1]; exact (Below.refl _ _).alloc (Nat.le_refl _) _)
  have X1 : Hid (w1.heap[w.heap.size]? = some (.cells (wordsV T) 26 (0, 0))) := Lib.hid (by rw [hw1]; exact heap_alloc_new w _)
  have Z1 : Hid (w1.heap.size = w.heap.size + 1) := Lib.hid (by rw [hw1]; simp)
  rw [← hw1, ← Z1.out]
  clear hw1
  obtain ⟨w2, hw2⟩ : ∃ w2, w2 = (w1.alloc (.cells (wordsV [0, 0, 0, 0, 0, 0, 0, 0, 0, 0]) 23)).alloc (.cells #[.slice (some ⟨w1.heap.size, 0, none⟩) 10 10, .int .i64 0] 58) := ⟨_, rfl⟩
  have C2 : Hid (CurSt w1 w2 (w1.heap.size + 1) w1.heap.size 0 (T.take 0 ++ List.replicate (10 - 0) 0)) := Lib.hid (by rw [hw2]; exact CurSt.start w1 T)
  rw [← hw2]
  clear hw2
  obtain ⟨cb, hcb⟩ : ∃ cb, cb = w1.heap.size + 1 := ⟨_, rfl⟩
  obtain ⟨wb, hwb⟩ : ∃ wb, wb = w1.heap.size := ⟨_, rfl⟩
  have LW : Hid (w.heap.size ≤ wb) := Lib.hid (by rw [hwb, Z1.out]; omega)
  rw [← hcb, ← hwb] at C2
  rw [← hcb, ← hwb]
  clear hcb hwb
  go_loopw [12] (fun i wr => WordsRel w1 cb wb T i wr) (fun i _ => (8 - (intOf i).toNat))
  case atStart => exact ⟨0, rfl, by omega, C2.out⟩
  case round =>
    obtain ⟨k, rfl, hk, hC⟩ := hrel
    have C3 := Lib.hid hC
    clear hC
    by_cases hlt : k < 8
    · have hix := idxRegs (T.take 8) (by rw [List.length_take, HT.out]; rfl) k hlt
      rw [take8_getD T k hlt] at hix
      go_wp2_with fail
      refine (put_ok w1 cb wb k _ (T.getD k 0) wr C3.out (by omega)).mono ?_
      rintro e w3 ⟨rfl, hC⟩
      rw [putting T HT.out k (by omega)] at hC
      have C4 := Lib.hid hC
      clear hC
      go_wp2
      go_roundw
      case rel => exact ⟨k + 1, by go_num, by omega, C4.out⟩
      case measure => simp [intOf]; omega
    · obtain rfl : k = 8 := by omega
      clear hlt
      have t8 : wr.cell? ⟨w.heap.size, 8, none⟩ = some (.int .u32 (T.getD 8 0)) := by
        rw [cell_of_row wr _ _ _ _ _ (below_block C3.out.below X1.out)]
        exact wordsV_get T 8 (by rw [HT.out]; decide)
      go_wp2_with fail
      refine (put_ok w1 cb wb 8 _ (T.getD 8 0) wr C3.out (by omega)).mono ?_
      rintro e w3 ⟨rfl, hC⟩
      rw [putting T HT.out 8 (by omega)] at hC
      have C4 := Lib.hid hC
      clear hC t8
      have t9 : w3.cell? ⟨w.heap.size, 9, none⟩ = some (.int .u32 (T.getD 9 0)) := by
        rw [cell_of_row w3 _ _ _ _ _ (below_block C4.out.below X1.out)]
        exact wordsV_get T 9 (by rw [HT.out]; decide)
      go_wp2_with fail
      refine (put_ok w1 cb wb 9 _ (T.getD 9 0) w3 C4.out (by omega)).mono ?_
      rintro e w4 ⟨rfl, hC⟩
      rw [putting T HT.out 9 (by omega)] at hC
      have C5 := Lib.hid hC
      clear hC t9
      have c0 := C5.out.c0
      go_wp2
      go_ret
      refine ⟨wb, rfl, LW.out, ?_, B1.out.trans (C5.out.below.mono B1.out.size)⟩
      have := C5.out.row
      rwa [show T.take (9 + 1) ++ List.replicate (10 - (9 + 1)) 0 = T by simp [List.take_of_length_le, HT.out]] at this
end Go.Proofs.Yteohfonmckahgaa
