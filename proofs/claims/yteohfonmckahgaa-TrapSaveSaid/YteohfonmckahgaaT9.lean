/- Traps that are compared: a trap is as itself. No condition. -/
import Derived.Test.YteohfonmckahgaaT8
import Derived.ChangeKeysEq
namespace Go.Proofs.Yteohfonmckahgaa
open Go.RowKit
set_option maxRecDepth 100000

theorem equalIn_regs (t0 t1 t2 t3 t4 t5 t6 t7 : Int) (w : World) : (Op.equalIn 9999 24 (.agg #[.int .u32 t0, .int .u32 t1, .int .u32 t2, .int .u32 t3, .int .u32 t4, .int .u32 t5, .int .u32 t6, .int .u32 t7]) (.agg #[.int .u32 t0, .int .u32 t1, .int .u32 t2, .int .u32 t3, .int .u32 t4, .int .u32 t5, .int .u32 t6, .int .u32 t7])).run Try.prog w = .ok true w := by
  obtain ⟨i, hi, h1, h2, h3⟩ := info_parts wordInfo
  have hc : Try.prog.cellsOf 23 = 1 := by kernel_rfl
  rw [run_equalIn_array w 9998 _ _ Try.underlying24 hi, hc]
  simp [Op.eqItems, List.range, List.range.loop, part, go_sem]
theorem equalIn_trap (T : List Int) (hT : T.length = 10) (w : World) : (Op.equalIn 10000 26 (.agg (wordsV T)) (.agg (wordsV T))).run Try.prog w = .ok true w := by
  have h := equalIn_regs
  match T, hT with
  | [t0, t1, t2, t3, t4, t5, t6, t7, t8, t9], _ =>
    rw [run_equalIn_struct w 9999 26 _ _ (by kernel_rfl) (by kernel_rfl)]
    simp [Program.fieldsOf, Try.underlying26, Op.eqFields, wordsV, part, h, go_sem]

section
variable {ops : Array Oper} {rest : List Oper} {op : Oper} {a : Act} {w : World} {Q : Exit → Act → World → Prop}
/-- An operation that is carried out. -/
theorem wpList_wanted {P : Program} (hw : Region.wanted op (yielded ops a.tmps) = true)
    (h : ∀ K : Act → World → Prop, (∀ a w, wpList P ops Q rest a w → K a w) → op.wp P a w K Q) : wpList P ops Q (op :: rest) a w :=
  wpList_step fun K hK => by rw [if_pos hw]; exact h K hK
theorem noGuard (T : List Int) (op : BinOp) (x y : Operand) (w : World) : (eqGuard op 26 x y (.agg (wordsV T)) (.agg (wordsV T))).run Try.prog w = .ok () w := run_eqGuard_agg w op _ x y _ _ (by kernel_rfl)
theorem wpList_eql_trap (hw : Region.wanted op (yielded ops a.tmps) = true) (x y : Operand) (b : TypeId) (ho : op.op = .binOp .eql 26 x y b) (T : List Int) (hT : T.length = 10) (hx : a.eval x = .agg (wordsV T)) (hy : a.eval y = .agg (wordsV T))
    (h : wpList Try.prog ops Q rest (a.put op.dst (.bool true)) w) : wpList Try.prog ops Q (op :: rest) a w :=
  wpList_wanted hw fun _ hK => by
    unfold Oper.wp execOp
    simp only [ho, hx, hy, Sem.run_bind, noGuard, run_eql_struct, equalIn_trap T hT, Result.andThen_ok]
    exact hK _ _ h
theorem wpList_neq_trap (hw : Region.wanted op (yielded ops a.tmps) = true) (x y : Operand) (b : TypeId) (ho : op.op = .binOp .neq 26 x y b) (T : List Int) (hT : T.length = 10) (hx : a.eval x = .agg (wordsV T)) (hy : a.eval y = .agg (wordsV T))
    (h : wpList Try.prog ops Q rest (a.put op.dst (.bool false)) w) : wpList Try.prog ops Q (op :: rest) a w :=
  wpList_wanted hw fun _ hK => by
    unfold Oper.wp execOp
    simp only [ho, hx, hy, Sem.run_bind, noGuard, run_neq_struct, equalIn_trap T hT, Result.andThen_ok]
    exact hK _ _ h
theorem wpListG_load_trap (hw : Region.wanted op (yielded ops a.tmps) = true) (x : Operand) (ho : op.op = .load 26 x) (b : Nat) (T : List Int) (t : TypeId) (hx : a.eval x = .pointer (some ⟨b, 0, none⟩)) (hg : w.heap[b]? = some (.cells (wordsV T) t (0, 0))) (hT : T.length = 10)
    (h : wpList Try.prog ops Q rest (a.put op.dst (.agg (wordsV T))) w) : wpList Try.prog ops Q (op :: rest) a w := by
  obtain ⟨d, h1, h2⟩ := trapUnder
  exact wpList_wanted hw fun _ hK => wp_load_row 26 x ho b hx t (wordsV T) (0, 0) d hg h1 (by cases d <;> simp_all) (by rw [trapSize, wordsV_size, hT]) (hK _ _ h)
theorem wpListG_build_none (hw : Region.wanted op (yielded ops a.tmps) = true) (ho : op.op = .build 26 #[])
    (h : wpList Try.prog ops Q rest (a.put op.dst (.agg (wordsV z10))) w) : wpList Try.prog ops Q (op :: rest) a w :=
  wpList_wanted hw fun _ hK => by
    have e : ∀ g : Nat × Operand → Nat × Value, (Array.map g #[]).toList = [] := fun g => by simp
    refine wp_build 26 #[] ho (by rw [e, trapBuilt]; rfl) ?_
    rw [e, trapBuilt]
    exact hK _ _ h
end
end Go.Proofs.Yteohfonmckahgaa
