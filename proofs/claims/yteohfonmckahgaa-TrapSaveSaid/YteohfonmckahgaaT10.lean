/- The contract of awake, layer 4's laws: it returns true. No condition. -/
import Derived.Test.YteohfonmckahgaaT9
namespace Go.Proofs.Yteohfonmckahgaa
open Go.RowKit
set_option maxRecDepth 100000

def awT : List Int := [5, 0, 0, 0, 0, 0, 0, 0, 1, 0]
def awT0 : List Int := [0, 0, 0, 0, 0, 0, 0, 0, 1, 0]
def awL : List Int := putK (List.replicate (2 * 32) 0) (idx 1 (20 : Nat)) awT 10
theorem awL20 : awL.getD (1 * 32 + 20) 0 = 5 := by decide +kernel
theorem awL28 : awL.getD (1 * 32 + 28) 0 = 1 := by decide +kernel

/-- A trap's box beside a memory of the law's own. -/
structure TrapBox (w : World) (tb fb : Nat) (T : List Int) : Prop where
  row : w.heap[tb]? = some (.cells (wordsV T) 26 (0, 0))
  ne : tb ≠ fb
theorem TrapBox.step {w w' : World} {tb fb : Nat} {T : List Int} (h : TrapBox w tb fb T) (hb : Below w.heap.size w w') : TrapBox w' tb fb T := ⟨below_block hb h.row, h.ne⟩
theorem TrapBox.put {w w' : World} {tb mp fb n : Nat} {L T : List Int} (h : TrapBox w tb fb T) (k : Puts w w' mp fb n L) : TrapBox w' tb fb T :=
  ⟨(k.grown.block tb (lt_of_block h.row) (fun e => h.ne (Option.some.inj e))).trans h.row, h.ne⟩
theorem aw_build : (Try.prog.built 26 [(1, .int .u32 1)]) = some (wordsV awT0) := by kernel_rfl
theorem wpList_build_aw {ops : Array Oper} {rest : List Oper} {op : Oper} {a : Act} {w : World} {Q : Exit → Act → World → Prop} (hgd : op.guard = none) (ho : op.op = .build 26 #[(1, .const (.int .u32 1))])
    (h : wpList Try.prog ops Q rest (a.put op.dst (.agg (wordsV awT0))) w) : wpList Try.prog ops Q (op :: rest) a w := by
  have e : (Array.map (fun g : Nat × Operand => (g.1, a.eval g.2)) #[(1, .const (.int .u32 1))]).toList = [(1, .int .u32 1)] := by simp [Act.eval]
  refine wpList_build hgd 26 _ ho (by rw [e, aw_build]; rfl) ?_
  rw [e, aw_build]
  exact h

theorem aw_cell {w : World} {b : Nat} (h : w.heap[b]? = some (.cells (wordsV awT0) 26 (0, 0))) : (w.setCell ⟨b, 0, none⟩ (.int .u32 5)).heap[b]? = some (.cells (wordsV awT) 26 (0, 0)) := by
  have h1 := heap_setCell_same w b 0 _ _ (.int .u32 5) h
  rw [wordsV_set] at h1
  exact h1

set_option maxHeartbeats 2000000 in
theorem awake4_any (w : World) : Calls Try.prog 8 #[] w fun e w' => e = .returned (.bool true) ∧ Below w.heap.size w w' := by
  have hz := trapZ
  go_enter Try.func8, Try.ntmps8
  go_wp2_with fail
  refine (new_ok 2 w (by decide) (by decide)).mono ?_
  rintro e w1 hp
  obtain ⟨mp, fb, rfl, ho⟩ := OwnMem.new hp
  have O1 := Lib.hid ho
  clear hp ho
  go_wp2_with (first | (refine wpList_build_aw rfl rfl ?_) | (refine wpList_load_trap rfl (.tmp 3) rfl w1.heap.size awT 26 rfl (aw_cell X2.out) rfl ?_) | (refine wpList_store_trap rfl (.tmp 3) (.tmp 19) rfl w1.heap.size z10 awT0 26 rfl rfl (heap_alloc_new w1 _) rfl rfl ?_; obtain ⟨w2, hw2⟩ : ∃ w2, w2 = (w1.alloc (.cells (wordsV z10) 26)).setRow w1.heap.size (wordsV awT0) := ⟨_, rfl⟩; have B2 : Hid (Below w1.heap.size w1 w2) := Lib.hid (by rw [hw2]; exact below_setRow ((Below.refl _ _).alloc (Nat.le_refl _) _) (Nat.le_refl _) _); have X2 : Hid (w2.heap[w1.heap.size]? = some (.cells (wordsV awT0) 26 (0, 0))) := Lib.hid (by rw [hw2]; exact setRow_heap _ _ _ _ _ _ (heap_alloc_new w1 _)); rw [← hw2]; clear hw2; have c0 : w2.cell? ⟨w1.heap.size, 0, none⟩ = some (.int .u32 0) := cell_of_row w2 _ 0 _ _ _ X2.out; have f0 := frozen_of_row w2 _ 0 _ _ X2.out))
  have A3 : Hid (Below w1.heap.size w1 (w2.setCell ⟨w1.heap.size, 0, none⟩ (.int .u32 5))) := Lib.hid (B2.out.setCell (p := ⟨w1.heap.size, 0, none⟩) (Nat.le_refl _) _)
  have T3 : Hid (TrapBox (w2.setCell ⟨w1.heap.size, 0, none⟩ (.int .u32 5)) w1.heap.size fb awT) := Lib.hid ⟨aw_cell X2.out, fun e => by have := lt_of_block O1.out.st.row; omega⟩
  generalize w2.setCell ⟨w1.heap.size, 0, none⟩ (.int .u32 5) = w3 at *
  have O3 := Lib.hid (O1.out.step A3.out)
  clear c0 f0 X2 B2 O1 A3
  generalize w1.heap.size = tb at *
  refine (save_ok mp fb 2 2 20 _ 1 awT w3 rfl O3.out.st (by unfold okFQ; omega) (by decide) rfl).mono ?_
  rintro e w4 ⟨rfl, hp⟩
  have O4 : Hid (OwnMem w w4 mp fb 2 awL) := Lib.hid (O3.out.put hp)
  have T4 := Lib.hid (T3.out.put hp)
  clear hp O3 T3
  go_wp2_with fail
  have C := read_ok mp fb 2 1 20 _ w4 O4.out.st (by decide) (by decide)
  rw [awL20] at C
  refine C.mono ?_
  clear C
  rintro e w5 ⟨rfl, hb⟩
  have O5 := Lib.hid (O4.out.step hb)
  have T5 := Lib.hid (T4.out.step hb)
  clear hb O4 T4
  go_wp2_with fail
  have C := read_ok mp fb 2 1 28 _ w5 O5.out.st (by decide) (by decide)
  rw [awL28] at C
  refine C.mono ?_
  clear C
  rintro e w6 ⟨rfl, hb⟩
  have O6 := Lib.hid (O5.out.step hb)
  have T6 := Lib.hid (T5.out.step hb)
  clear hb O5 T5
  go_wp2_with (refine wpListG_load_trap rfl (.tmp 3) rfl tb awT 26 rfl T6.out.row rfl ?_)
  refine (save_bad mp fb 2 awL 1 3 awT w6 O6.out.st (by omega)).mono ?_
  rintro e w7 ⟨rfl, hb⟩
  have O7 := Lib.hid (O6.out.step hb)
  clear hb
  go_wp2
  go_ret
  exact ⟨rfl, O7.out.below⟩
end Go.Proofs.Yteohfonmckahgaa
