/- The contracts of package pick's rising, Take, All. Conditions: the library's table reads as its initialiser lays it; the set lies as New laid it, or there is none, or nobody made it. -/
import Derived.Test.YtiohnhgoddfebaaDoorQ5
namespace Go.Proofs.YtiohnhgoddfebaaDoor
open Go.RowKit
set_option maxRecDepth 100000

theorem rowInfo : (Tryd.prog.info? 107).map (fun i => (i.zero, i.size)) = some (some (.agg (bitsV []).toArray), 16) := by kernel_rfl
theorem rowZero (w : World) : (zeroValue 107).run Tryd.prog w = .ok (.agg (bitsV []).toArray) w := (zero_of_info rowInfo).1 w
theorem store_bits {w : World} {b : Nat} {K L : List Nat} {t : TypeId} (hg : w.heap[b]? = some (.cells (bitsV K).toArray t (0, 0))) :
    (Instr.storeAt 107 (.pointer (some ⟨b, 0, none⟩)) (.agg (bitsV L).toArray)).run Tryd.prog w = .ok () (w.setRow b (bitsV L).toArray) := by
  have := run_storeCells_at Tryd.prog b 0 t (bitsV L) 0 (bitsV K).toArray w hg (by simp [bitsV_length]) (fun v hv => by
    obtain ⟨x, _, rfl⟩ := List.mem_map.1 hv; rfl)
  have e : ((bitsV K).toArray.toList.take (0 + 0) ++ bitsV L ++ (bitsV K).toArray.toList.drop (0 + 0 + (bitsV L).length)).toArray = (bitsV L).toArray := by
    simp [bitsV_length, List.drop_eq_nil_of_le]
  rw [e] at this
  have hi := rowSize
  cases hq : Tryd.prog.info? 107 with
  | none => simp [hq] at hi
  | some i =>
    have hs : i.size = 16 := by simpa [hq] using hi
    simp [Instr.storeAt, Instr.sureAddr, storeVar, Sem.run_bind, sizeOf, typeInfo, hq, hs, Value.cells, this, bitsV_length]
theorem wpList_store_bits {ops : Array Oper} {rest : List Oper} {op : Oper} {a : Act} {w : World} {Q : Exit → Act → World → Prop} (hgd : op.guard = none) (x y : Operand) (ho : op.op = .store 107 x y) (b : Nat) (K L : List Nat) (t : TypeId) (hx : a.eval x = .pointer (some ⟨b, 0, none⟩)) (hy : a.eval y = .agg (bitsV L).toArray) (hg : w.heap[b]? = some (.cells (bitsV K).toArray t (0, 0)))
    (h : wpList Tryd.prog ops Q rest (a.put op.dst undef) (w.setRow b (bitsV L).toArray)) : wpList Tryd.prog ops Q (op :: rest) a w :=
  wpList_plain hgd fun _ hK => by
    unfold Oper.wp execOp
    simp only [ho, hx, hy, Sem.run_bind, store_bits hg, Result.andThen_ok]
    exact hK _ _ h

theorem two_old (w : World) (cs : Array Value) (u : Value) (t1 t2 : TypeId) : ((w.alloc (.cells cs t1)).alloc (.cells #[u] t2)).heap[w.heap.size]? = some (.cells cs t1 (0, 0)) := heap_alloc2_old _ _ _
theorem rise_world (w : World) (L : List Nat) (h : Good L) : ∃ w3, w3 = (((w.alloc (.cells (bitsV []).toArray 107)).alloc (.cells #[.int .i64 0] 3)).setRow w.heap.size (bitsV L).toArray) ∧ Iter w3 (w.heap.size + 1) w.heap.size 0 L ∧ Below w.heap.size w w3 := by
  refine ⟨_, rfl, ⟨h, ?_, setRow_heap _ _ _ _ _ _ (two_old w _ _ _ _), by omega, Nat.zero_le _, fun i hi => absurd hi (Nat.not_lt_zero _)⟩, below_setRow (below_two _ _ _) (Nat.le_refl _) _⟩
  rw [setRow_other _ _ _ _ (by omega)]
  exact heap_alloc2_new _ _ _
def RisePost (w : World) (L : List Nat) (e : Ending) (w' : World) : Prop := ∃ ba bw, e = .returned (.func (.func 62) #[] #[.pointer (some ⟨ba, 0, none⟩), .pointer (some ⟨bw, 0, none⟩)]) ∧ Iter w' ba bw 0 L ∧ Below w.heap.size w w' ∧ w.heap.size ≤ ba ∧ w.heap.size ≤ bw
set_option maxHeartbeats 1000000 in
theorem rising_ok (b : Nat) (L : List Nat) (w : World) (h : SetAt w b L) : Calls Tryd.prog 54 #[.pointer (some ⟨b, 0, none⟩)] w (RisePost w L) := by
  have hmf : ∀ (fn : Fn) (first cap : Array Value) (w : World), (Instr.makeFunc fn first cap).run Tryd.prog w = .ok (.func fn first cap) w := fun _ _ _ _ => rfl
  have hz := rowZero
  have H := Lib.hid h
  obtain ⟨d, hu, hd⟩ := rowUnder
  have HU := Lib.hid hu
  have HS := Lib.hid rowSize
  clear h hu
  go_enter Tryd.func54, Tryd.ntmps54
  go_wp2_with (first
    | (go_at_call 53; refine (isThere_some b true _ H.out.made).mono ?_; rintro e w' ⟨rfl, rfl⟩)
    | (refine wpList_load_mid rfl 107 (.tmp 10) rfl b 0 rfl (bitsV L) d H.out.range HU.out hd (by rw [bitsV_length]; exact HS.out) ?_)
    | (refine wpList_store_bits rfl (.tmp 3) (.tmp 11) rfl w.heap.size [] L 107 rfl rfl (two_old w (bitsV []).toArray (.int .i64 0) 107 3) ?_; obtain ⟨w3, hw3, hI, hB⟩ := rise_world w L H.out.good; rw [← hw3]; have I := Lib.hid hI; have B := Lib.hid hB; have ca := hI.cellA; have fa := hI.freeA; clear hI hB hw3))
  go_ret
  exact ⟨_, _, rfl, ⟨I.out.good, heap_set_one I.out.at_ _, (Below.heap_setCell _ _ _ _ (fun e => I.out.ne e.symm)).trans I.out.row, I.out.ne, I.out.top, I.out.low⟩, B.out.setCell (by simp) _, by omega, Nat.le_refl _⟩
theorem rising_no (p : Option Addr) (w : World) (h : NoSet w p) : Calls Tryd.prog 54 #[.pointer p] w fun e w' => e = .returned (.func (.func 61) #[] #[]) ∧ w = w' := by
  have H := Lib.hid h
  clear h
  go_enter Tryd.func54, Tryd.ntmps54
  go_wp2_with (go_at_call 53; refine (isThere_no p _ H.out).mono ?_; rintro e w' ⟨rfl, rfl⟩)
  go_ret
  exact ⟨rfl, rfl⟩
theorem none_ok (w : World) : Calls Tryd.prog 61 #[] w fun e w' => e = .returned (.tuple #[.int .i64 0, .bool false]) ∧ w = w' := by
  go_enter Tryd.func61, Tryd.ntmps61
  go_wp2
  go_ret2
  exact ⟨rfl, rfl⟩
end Go.Proofs.YtiohnhgoddfebaaDoor
