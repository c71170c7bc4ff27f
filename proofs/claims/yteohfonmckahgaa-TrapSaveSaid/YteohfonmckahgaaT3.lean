/- The contracts of package trap's Of and begin. Conditions: a slice that is taken has its words in a block; the memory lies as made, or there is none. -/
import Derived.Test.YteohfonmckahgaaT2
import Derived.Laws.CopyOwn
namespace Go.Proofs.Yteohfonmckahgaa
open Go.RowKit
set_option maxRecDepth 100000

/-- The words of a trap that is none. -/
def z10 : List Int := [0, 0, 0, 0, 0, 0, 0, 0, 0, 0]
theorem trapZ (w : World) : (zeroValue 26).run Try.prog w = .ok (.agg (wordsV z10)) w := trapZero w
theorem trapBuilt : (Try.prog.built 26 []) = some (wordsV z10) := by kernel_rfl
section
variable {ops : Array Oper} {rest : List Oper} {op : Oper} {a : Act} {w : World} {Q : Exit → Act → World → Prop}
theorem wpList_build_none (hgd : op.guard = none) (ho : op.op = .build 26 #[])
    (h : wpList Try.prog ops Q rest (a.put op.dst (.agg (wordsV z10))) w) : wpList Try.prog ops Q (op :: rest) a w := by
  have e : ∀ g : Nat × Operand → Nat × Value, (Array.map g #[]).toList = [] := fun g => by simp
  refine wpList_build hgd 26 #[] ho (by rw [e, trapBuilt]; rfl) ?_
  rw [e, trapBuilt]
  exact h
end
section
variable {ops : Array Oper} {rest : List Oper} {op : Oper} {a : Act} {w : World} {Q : Exit → Act → World → Prop}
theorem wpList_build_trap (hgd : op.guard = none) (x y z : Operand) (ho : op.op = .build 26 #[(0, x), (1, y), (2, z)]) (t0 t1 t2 t3 t4 t5 t6 t7 t8 t9 : Int)
    (hx : a.eval x = .agg (wordsV [t0, t1, t2, t3, t4, t5, t6, t7])) (hy : a.eval y = .int .u32 t8) (hz : a.eval z = .int .u32 t9)
    (h : wpList Try.prog ops Q rest (a.put op.dst (.agg (wordsV [t0, t1, t2, t3, t4, t5, t6, t7, t8, t9]))) w) : wpList Try.prog ops Q (op :: rest) a w := by
  have hb : (Try.prog.built 26 [(0, .agg (wordsV [t0, t1, t2, t3, t4, t5, t6, t7])), (1, .int .u32 t8), (2, .int .u32 t9)]) = some (wordsV [t0, t1, t2, t3, t4, t5, t6, t7, t8, t9]) := by kernel_rfl
  have e : (Array.map (fun g : Nat × Operand => (g.1, a.eval g.2)) #[(0, x), (1, y), (2, z)]).toList = [(0, .agg (wordsV [t0, t1, t2, t3, t4, t5, t6, t7])), (1, .int .u32 t8), (2, .int .u32 t9)] := by simp [hx, hy, hz]
  refine wpList_build hgd 26 _ ho (by rw [e, hb]; rfl) ?_
  rw [e, hb]
  exact h
end
theorem load_trap {w : World} {b : Nat} {T : List Int} {t : TypeId} (hg : w.heap[b]? = some (.cells (wordsV T) t (0, 0))) (hT : T.length = 10) : (loadVar 26 ⟨b, 0, none⟩).run Try.prog w = .ok (.agg (wordsV T)) w := by
  obtain ⟨d, h1, h2⟩ := trapUnder
  exact run_loadVar_row w b t 26 (wordsV T) (0, 0) d hg h1 (by cases d <;> simp_all) (by rw [trapSize, wordsV_size, hT])

/-- A trap and an error, handed back. -/
theorem results_trap {fn : Func} {p q : Tmp} (h : fn.results = #[.cell p 26, .tmp q]) (tmps : Array Value) (w : World) (g : Nat) (T : List Int) (t : TypeId) (v : Value) (hp : tmps.getD p undef = .pointer (some ⟨g, 0, none⟩)) (hq : tmps.getD q undef = v)
    (hg : w.heap[g]? = some (.cells (wordsV T) t (0, 0))) (hT : T.length = 10) : (results fn tmps).run Try.prog w = .ok (.tuple #[.agg (wordsV T), v]) w := by
  have hp' : tmps[p]?.getD undef = .pointer (some ⟨g, 0, none⟩) := by simpa using hp
  have hq' : tmps[q]?.getD undef = v := by simpa using hq
  simp [results, h, hp', hq', asAddr, load_trap hg hT]

set_option maxHeartbeats 1000000 in
theorem of_bad (a : Option Addr) (m c : Nat) (w : World) (h : m ≠ 10) :
    Calls Try.prog 9 #[.slice a m c] w fun e w' => e = .returned (.tuple #[.agg (wordsV z10), .int .i64 2]) ∧ Below w.heap.size w w' := by
  have hz := trapZ
  have h1 : ((m : Int) == 10) = false := by simp; omega
  have h2 : ((m : Int) != 10) = true := by simp; omega
  clear h
  go_enter Try.func9, Try.ntmps9
  go_wp2_with (first | (refine wpList_build_none rfl rfl ?_) | (refine wpList_store_trap rfl (.tmp 2) (.tmp 8) rfl w.heap.size z10 z10 26 rfl rfl (heap_alloc_new w _) rfl rfl ?_))
  exact bodyPost_ret (v := .tuple #[.agg (wordsV z10), .int .i64 2]) (results_trap Try.results9 _ _ w.heap.size z10 _ _ rfl rfl (setRow_heap _ _ _ (wordsV z10) _ _ (heap_alloc_new w (.cells (wordsV z10) 26))) rfl) rfl ⟨rfl, below_setRow ((Below.refl _ _).alloc (Nat.le_refl _) _) (Nat.le_refl _) _⟩

def z8 : List Int := [0, 0, 0, 0, 0, 0, 0, 0]
theorem regsZ (w : World) : (zeroValue 24).run Try.prog w = .ok (.agg (wordsV z8)) w := regsZero w
theorem wordSize : (Try.prog.info? 23).map (·.size) = some 1 := by
  obtain ⟨i, hi, h1, h2, h3⟩ := info_parts wordInfo
  rw [hi, Option.map_some, h2]

set_option maxHeartbeats 2000000 in
theorem of_ok (b o c : Nat) (t0 t1 t2 t3 t4 t5 t6 t7 t8 t9 : Int) (w : World) (hb : b < w.heap.size) (hc : ∀ i, i < 10 → w.cell? ⟨b, o + i, none⟩ = some (.int .u32 ([t0, t1, t2, t3, t4, t5, t6, t7, t8, t9].getD i 0))) :
    Calls Try.prog 9 #[.slice (some ⟨b, o, none⟩) 10 c] w fun e w' => e = .returned (.tuple #[.agg (wordsV [t0, t1, t2, t3, t4, t5, t6, t7, t8, t9]), .int .i64 0]) ∧ Below w.heap.size w w' := by
  have hz := trapZ
  have hz8 := regsZ
  have HC := Lib.hid hc
  have HB := Lib.hid hb
  clear hc hb
  go_enter Try.func9, Try.ntmps9
  have HX : Hid (∀ j v, ([t0, t1, t2, t3, t4, t5, t6, t7].map (Value.int .u32))[j]? = some v → ((w.alloc (.cells (wordsV z10) 26)).alloc (.cells (wordsV z8) 24)).cell? ((⟨b, o, none⟩ : Addr).add j) = some v) := Lib.hid (fun j v hv => by
    rw [Addr.add_mid, (below_two w _ _).cell (p := ⟨b, o + j, none⟩) HB.out]
    match j, hv with
    | 0, hv => rw [HC.out 0 (by omega)]; exact hv
    | 1, hv => rw [HC.out 1 (by omega)]; exact hv
    | 2, hv => rw [HC.out 2 (by omega)]; exact hv
    | 3, hv => rw [HC.out 3 (by omega)]; exact hv
    | 4, hv => rw [HC.out 4 (by omega)]; exact hv
    | 5, hv => rw [HC.out 5 (by omega)]; exact hv
    | 6, hv => rw [HC.out 6 (by omega)]; exact hv
    | 7, hv => rw [HC.out 7 (by omega)]; exact hv
    | j + 8, hv => simp at hv)
  have H8 : Hid ((z8.map (Value.int .u32)).length = 8) := Lib.hid rfl
  go_wp2_with (refine wpList_copy_splice rfl (.tmp 9) (.tmp 10) 27 27 rfl 23 Try.underlying27 wordSize (some ⟨w.heap.size + 1, 0, none⟩) (some ⟨b, o, none⟩) 8 8 10 c rfl rfl (w.heap.size + 1) 0 (z8.map (Value.int .u32)) 24 (heap_alloc2_new _ _ _) ([t0, t1, t2, t3, t4, t5, t6, t7].map (Value.int .u32)) rfl (fun _ => ⟨rfl, _, rfl, HX.out⟩) (Nat.le_refl _) (fun v hv => by obtain ⟨x, _, rfl⟩ := List.mem_map.1 hv; rfl) (w.heap.size + 1) (w.alloc (.cells (wordsV z10) 26)) ((Below.refl _ _).alloc (by simp) _) (Nat.le_refl _) ?_; intro w3 HG hB)
  have R3 : Hid (w3.heap[w.heap.size + 1]? = some (.cells (wordsV [t0, t1, t2, t3, t4, t5, t6, t7]) 24 (0, 0))) := Lib.hid HG.out
  have X3 : Hid (w3.heap[w.heap.size]? = some (.cells (wordsV z10) 26 (0, 0))) := Lib.hid (by
    have := hB.block w.heap.size (by simp)
    rw [this]
    exact heap_alloc_new w _)
  have B3 : Hid (Below w.heap.size w w3) := Lib.hid (((Below.refl w.heap.size w).alloc (Nat.le_refl _) (.cells (wordsV z10) 26)).trans (hB.mono (by simp)))
  have r : ∀ i, w3.cell? ⟨w.heap.size + 1, i, none⟩ = (wordsV [t0, t1, t2, t3, t4, t5, t6, t7])[i]? := fun i => cell_of_row w3 _ i _ _ _ R3.out
  have r0 : w3.cell? ⟨w.heap.size + 1, 0, none⟩ = some (.int .u32 t0) := r 0
  have r1 : w3.cell? ⟨w.heap.size + 1, 1, none⟩ = some (.int .u32 t1) := r 1
  have r2 : w3.cell? ⟨w.heap.size + 1, 2, none⟩ = some (.int .u32 t2) := r 2
  have r3 : w3.cell? ⟨w.heap.size + 1, 3, none⟩ = some (.int .u32 t3) := r 3
  have r4 : w3.cell? ⟨w.heap.size + 1, 4, none⟩ = some (.int .u32 t4) := r 4
  have r5 : w3.cell? ⟨w.heap.size + 1, 5, none⟩ = some (.int .u32 t5) := r 5
  have r6 : w3.cell? ⟨w.heap.size + 1, 6, none⟩ = some (.int .u32 t6) := r 6
  have r7 : w3.cell? ⟨w.heap.size + 1, 7, none⟩ = some (.int .u32 t7) := r 7
  have x8 : w3.cell? ⟨b, o + 8, none⟩ = some (.int .u32 t8) := by rw [B3.out.cell (p := ⟨b, o + 8, none⟩) HB.out]; exact HC.out 8 (by omega)
  have x9 : w3.cell? ⟨b, o + 9, none⟩ = some (.int .u32 t9) := by rw [B3.out.cell (p := ⟨b, o + 9, none⟩) HB.out]; exact HC.out 9 (by omega)
  clear HG hB r
  go_still_tail 7, (by kernel_rfl)
  change wpList _ _ _ _ _ w3.drew
  have X4 : Hid (w3.drew.heap[w.heap.size]? = some (.cells (wordsV z10) 26 (0, 0))) := Lib.hid X3.out
  have B4 : Hid (Below w.heap.size w w3.drew) := Lib.hid B3.out.drew
  generalize w3.drew = w4 at *
  clear r0 r1 r2 r3 r4 r5 r6 r7 x8 x9 X3 B3 R3 HX HC
  refine wpList_build_trap rfl (.tmp 12) (.tmp 15) (.tmp 18) rfl t0 t1 t2 t3 t4 t5 t6 t7 t8 t9 rfl rfl rfl ?_
  refine wpList_store_trap rfl (.tmp 2) (.tmp 19) rfl w.heap.size z10 [t0, t1, t2, t3, t4, t5, t6, t7, t8, t9] 26 rfl rfl X4.out rfl rfl ?_
  have X5 : Hid ((w4.setRow w.heap.size (wordsV [t0, t1, t2, t3, t4, t5, t6, t7, t8, t9])).heap[w.heap.size]? = some (.cells (wordsV [t0, t1, t2, t3, t4, t5, t6, t7, t8, t9]) 26 (0, 0))) := Lib.hid (setRow_heap w4 _ _ _ _ _ X4.out)
  have B5 : Hid (Below w.heap.size w (w4.setRow w.heap.size (wordsV [t0, t1, t2, t3, t4, t5, t6, t7, t8, t9]))) := Lib.hid (below_setRow B4.out (Nat.le_refl _) _)
  generalize w4.setRow w.heap.size (wordsV [t0, t1, t2, t3, t4, t5, t6, t7, t8, t9]) = w5 at *
  go_wp2_with fail
  exact bodyPost_ret (v := .tuple #[.agg (wordsV [t0, t1, t2, t3, t4, t5, t6, t7, t8, t9]), .int .i64 0]) (results_trap Try.results9 _ _ w.heap.size [t0, t1, t2, t3, t4, t5, t6, t7, t8, t9] _ _ rfl rfl X5.out rfl) rfl ⟨rfl, B5.out⟩
end Go.Proofs.Yteohfonmckahgaa
