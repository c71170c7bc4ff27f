/- Texts of mine, joined: M3. What each says and under which conditions stands at its head, below. -/
import Derived.Test.YtfpcoomkbmfchaaGreatDoorGC
import Derived.Deep.MidRow
import Derived.Deep.WholeRow
/- The contracts of what is done with a frame's words, package mem. Conditions: the frame's words lie in a block; the boxes that are captured are there. -/
namespace Go.Proofs.YtfpcoomkbmfchaaGreatDoor
open Go.RowKit
set_option maxRecDepth 100000

/-- A frame's words, and the words with a frame's put. -/
def rowOf (L : List Int) (f : Nat) : List Int := (L.drop (f * 32)).take 32
def putRow (L : List Int) (f : Nat) (R : List Int) : List Int := L.take (f * 32) ++ R ++ L.drop (f * 32 + 32)
def zeros : List Int := List.replicate 32 0

theorem rowOf_length {L : List Int} {f n : Nat} (h : L.length = n * 32) (hf : f < n) : (rowOf L f).length = 32 := by
  simp [rowOf, h]; omega
theorem putRow_length {L R : List Int} {f n : Nat} (h : L.length = n * 32) (hf : f < n) (hR : R.length = 32) : (putRow L f R).length = n * 32 := by
  simp [putRow, h, hR]; omega
theorem wordsV_size (L : List Int) : (wordsV L).size = L.length := by simp [wordsV]
theorem wordsV_toList (L : List Int) : (wordsV L).toList = L.map (Value.int .u32) := by simp [wordsV]
theorem wordsV_set (L : List Int) (i : Nat) (v : Int) : (wordsV L).setIfInBounds i (.int .u32 v) = wordsV (L.set i v) := by
  apply Array.ext'
  simp [wordsV, List.map_set]
theorem rowOf_at {L : List Int} {f n : Nat} (h : L.length = n * 32) (hf : f < n) (j : Nat) (v : Value) (hv : ((rowOf L f).map (Value.int .u32))[j]? = some v) : (wordsV L)[f * 32 + j]? = some v := by
  have hj : j < 32 := by have := (List.getElem?_eq_some_iff.1 hv).1; rw [List.length_map, rowOf_length h hf] at this; exact this
  rw [← hv]
  simp only [wordsV, List.getElem?_toArray, List.getElem?_map, rowOf, List.getElem?_take, List.getElem?_drop, if_pos hj]

/-- A frame is loaded whole. -/
theorem load_frame {P : Program} {ty : TypeId} {d : TypeDesc} (hu : P.underlying ty = some d) (hd : d.isRow = true) (hi : (P.info? ty).map (·.size) = some 32) {w : World} {fb f n : Nat} {L : List Int} {t : TypeId} (hg : w.heap[fb]? = some (.cells (wordsV L) t (0, 0))) (hl : L.length = n * 32) (hf : f < n) :
    (Instr.loadAt ty (.pointer (some ⟨fb, f * 32, none⟩))).run P w = .ok (.agg (wordsV (rowOf L f))) w :=
  run_loadAt_mid w fb (f * 32) ty ((rowOf L f).map (Value.int .u32)) d (fun j v hv => by rw [cell_of_row w fb _ _ _ _ hg]; exact rowOf_at hl hf j v hv) hu hd (by rw [List.length_map, rowOf_length hl hf]; exact hi)
/-- A frame is stored whole. -/
theorem store_frame {P : Program} {ty : TypeId} (hi : (P.info? ty).map (·.size) = some 32) {w : World} {fb f n : Nat} {L R : List Int} {t : TypeId} (hg : w.heap[fb]? = some (.cells (wordsV L) t (0, 0))) (hl : L.length = n * 32) (hf : f < n) (hR : R.length = 32) :
    (Instr.storeAt ty (.pointer (some ⟨fb, f * 32, none⟩)) (.agg (wordsV R))).run P w = .ok () (w.setRow fb (wordsV (putRow L f R))) := by
  have := run_storeCells_at P fb (f * 32) t (R.map (Value.int .u32)) 0 (wordsV L) w hg (by rw [List.length_map, wordsV_size, hR, hl]; omega) (fun v hv => by
    obtain ⟨x, _, rfl⟩ := List.mem_map.1 hv; rfl)
  have e : ((wordsV L).toList.take (f * 32 + 0) ++ R.map (Value.int .u32) ++ (wordsV L).toList.drop (f * 32 + 0 + (R.map (Value.int .u32)).length)).toArray = wordsV (putRow L f R) := by
    simp [wordsV, putRow, hR]
  rw [e] at this
  cases hq : P.info? ty with
  | none => simp [hq] at hi
  | some i =>
    have hs : i.size = 32 := by simpa [hq] using hi
    simp [Instr.storeAt, Instr.sureAddr, storeVar, Sem.run_bind, sizeOf, typeInfo, hq, hs, Value.cells, wordsV_toList, this, wordsV_size, hR]

theorem pageInfo : (Tryz.prog.info? 205).map (fun i => (i.zero, i.size)) = some (some (.agg (wordsV zeros)), 32) := by kernel_rfl
theorem pageUnder : ∃ d, Tryz.prog.underlying 205 = some d ∧ d.isRow = true := ⟨_, Tryz.underlying205, rfl⟩
theorem pageSize : (Tryz.prog.info? 205).map (·.size) = some 32 := (zero_of_info pageInfo).2
theorem pageZero (w : World) : (zeroValue 205).run Tryz.prog w = .ok (.agg (wordsV zeros)) w := (zero_of_info pageInfo).1 w
theorem load_page {w : World} {fb f n : Nat} {L : List Int} {t : TypeId} (hg : w.heap[fb]? = some (.cells (wordsV L) t (0, 0))) (hl : L.length = n * 32) (hf : f < n) :
    (Instr.loadAt 205 (.pointer (some ⟨fb, f * 32, none⟩))).run Tryz.prog w = .ok (.agg (wordsV (rowOf L f))) w :=
  let ⟨_, h1, h2⟩ := pageUnder
  load_frame h1 h2 pageSize hg hl hf
theorem store_page {w : World} {fb f n : Nat} {L R : List Int} {t : TypeId} (hg : w.heap[fb]? = some (.cells (wordsV L) t (0, 0))) (hl : L.length = n * 32) (hf : f < n) (hR : R.length = 32) :
    (Instr.storeAt 205 (.pointer (some ⟨fb, f * 32, none⟩)) (.agg (wordsV R))).run Tryz.prog w = .ok () (w.setRow fb (wordsV (putRow L f R))) := store_frame pageSize hg hl hf hR


section
variable {ops : Array Oper} {rest : List Oper} {op : Oper} {a : Act} {w : World} {Q : Exit → Act → World → Prop}
theorem wpList_load_page (hgd : op.guard = none) (x : Operand) (ho : op.op = .load 205 x) (fb f n : Nat) (L : List Int) (t : TypeId) (hx : a.eval x = .pointer (some ⟨fb, f * 32, none⟩)) (hg : w.heap[fb]? = some (.cells (wordsV L) t (0, 0))) (hl : L.length = n * 32) (hf : f < n)
    (h : wpList Tryz.prog ops Q rest (a.put op.dst (.agg (wordsV (rowOf L f)))) w) : wpList Tryz.prog ops Q (op :: rest) a w :=
  wpList_plain hgd fun _ hK => by
    unfold Oper.wp execOp
    simp only [ho, hx, Sem.run_bind, load_page hg hl hf, Result.andThen_ok]
    exact hK _ _ h
theorem wpList_store_page (hgd : op.guard = none) (x y : Operand) (ho : op.op = .store 205 x y) (fb f n : Nat) (L R : List Int) (t : TypeId) (hx : a.eval x = .pointer (some ⟨fb, f * 32, none⟩)) (hy : a.eval y = .agg (wordsV R)) (hg : w.heap[fb]? = some (.cells (wordsV L) t (0, 0))) (hl : L.length = n * 32) (hf : f < n) (hR : R.length = 32)
    (h : wpList Tryz.prog ops Q rest (a.put op.dst undef) (w.setRow fb (wordsV (putRow L f R)))) : wpList Tryz.prog ops Q (op :: rest) a w :=
  wpList_plain hgd fun _ hK => by
    unfold Oper.wp execOp
    simp only [ho, hx, hy, Sem.run_bind, store_page hg hl hf hR, Result.andThen_ok]
    exact hK _ _ h
theorem wpList_build_page (hgd : op.guard = none) (ho : op.op = .build 205 #[])
    (h : wpList Tryz.prog ops Q rest (a.put op.dst (.agg (wordsV zeros))) w) : wpList Tryz.prog ops Q (op :: rest) a w := by
  have hb : (Tryz.prog.built 205 []) = some (wordsV zeros) := by kernel_rfl
  have e : ∀ g : Nat × Operand → Nat × Value, (Array.map g #[]).toList = [] := fun g => by simp
  refine wpList_build hgd 205 #[] ho (by rw [e, hb]; rfl) ?_
  rw [e, hb]
  exact h
end
/-- A box of a page is a memory of one frame. -/
theorem rowOf_box (R : List Int) (h : R.length = 32) : rowOf R 0 = R := by simp [rowOf, List.take_of_length_le, h]
theorem putRow_box (L R : List Int) (h : L.length = 32) : putRow L 0 R = R := by simp [putRow, h]

set_option maxRecDepth 100000 in
set_option maxHeartbeats 400000 in
theorem zeroIt (fb f n : Nat) (L : List Int) (w : World) (t : TypeId) (hg : w.heap[fb]? = some (.cells (wordsV L) t (0, 0))) (hl : L.length = n * 32) (hf : f < n) :
    Calls Tryz.prog 172 #[.pointer (some ⟨fb, f * 32, none⟩)] w fun e w' => e = .returned (.tuple #[]) ∧ w' = w.setRow fb (wordsV (putRow L f zeros)) := by
  have hg := Lib.hid hg
  have hl := Lib.hid hl
  go_enter Tryz.func172, Tryz.ntmps172
  go_wp2_with (first | (refine wpList_build_page rfl rfl ?_) | (refine wpList_store_page rfl (.tmp 4) (.tmp 3) rfl fb f n L zeros t rfl rfl hg.out hl.out hf rfl ?_))
  go_end0
  exact ⟨rfl, rfl⟩

set_option maxRecDepth 100000 in
set_option maxHeartbeats 400000 in
theorem copyFrom (fb f n bx : Nat) (L R : List Int) (w : World) (t t' : TypeId) (hg : w.heap[fb]? = some (.cells (wordsV L) t (0, 0))) (hl : L.length = n * 32) (hf : f < n) (hx : w.heap[bx]? = some (.cells (wordsV R) t' (0, 0))) (hR : R.length = 32) :
    Calls Tryz.prog 181 #[.pointer (some ⟨fb, f * 32, none⟩), .pointer (some ⟨bx, 0, none⟩)] w fun e w' => e = .returned (.tuple #[]) ∧ w' = w.setRow bx (wordsV (rowOf L f)) := by
  have hg := Lib.hid hg
  have hx := Lib.hid hx
  have hr : (rowOf L f).length = 32 := rowOf_length hl hf
  have hr := Lib.hid hr
  have hl := Lib.hid hl
  have hR1 := Lib.hid hR
  clear hR
  go_enter Tryz.func181, Tryz.ntmps181
  go_wp2_with (first | (refine wpList_load_page rfl (.tmp 4) rfl fb f n L t rfl hg.out hl.out hf ?_) | (refine wpList_store_page rfl (.tmp 1) (.tmp 5) rfl bx 0 1 R (rowOf L f) t' rfl rfl hx.out (by rw [hR1.out]) (by omega) hr.out ?_))
  go_end0
  exact ⟨rfl, by rw [putRow_box _ _ hR1.out]⟩

set_option maxRecDepth 100000 in
set_option maxHeartbeats 400000 in
theorem copyTo (fb f n bx : Nat) (L R : List Int) (w : World) (t t' : TypeId) (hg : w.heap[fb]? = some (.cells (wordsV L) t (0, 0))) (hl : L.length = n * 32) (hf : f < n) (hx : w.heap[bx]? = some (.cells (wordsV R) t' (0, 0))) (hR : R.length = 32) :
    Calls Tryz.prog 182 #[.pointer (some ⟨fb, f * 32, none⟩), .pointer (some ⟨bx, 0, none⟩)] w fun e w' => e = .returned (.tuple #[]) ∧ w' = w.setRow fb (wordsV (putRow L f R)) := by
  have hg := Lib.hid hg
  have hx := Lib.hid hx
  have hl := Lib.hid hl
  have hR1 := Lib.hid hR
  clear hR
  go_enter Tryz.func182, Tryz.ntmps182
  go_wp2_with (first | (refine wpList_load_page rfl (.tmp 1) rfl bx 0 1 R t' rfl hx.out (by rw [hR1.out]) (by omega) ?_) | (refine wpList_store_page rfl (.tmp 5) (.tmp 4) rfl fb f n L (rowOf R 0) t rfl rfl hg.out hl.out hf (by rw [rowOf_box _ hR1.out, hR1.out]) ?_))
  go_end0
  exact ⟨rfl, by rw [rowOf_box _ hR1.out]⟩

set_option maxRecDepth 100000 in
set_option maxHeartbeats 800000 in
theorem readIt (fb f q bq bw : Nat) (v o : Int) (w : World) (hq : q < 32) (h1 : w.cell? ⟨fb, f * 32 + q, none⟩ = some (.int .u32 v)) (h2 : w.cell? ⟨bq, 0, none⟩ = some (.int .i64 q)) (h3 : w.cell? ⟨bw, 0, none⟩ = some (.int .u32 o)) (h4 : w.frozen? ⟨bw, 0, none⟩ = false) :
    Calls Tryz.prog 84 #[.pointer (some ⟨fb, f * 32, none⟩), .pointer (some ⟨bq, 0, none⟩), .pointer (some ⟨bw, 0, none⟩)] w fun e w' => e = .returned (.tuple #[]) ∧ w' = (w.setCell ⟨bw, 0, none⟩ (.int .u32 v)).drew := by
  have hq' : (q : Int) < 32 := by omega
  go_enter Tryz.func84, Tryz.ntmps84
  go_wp2
  go_still_tail 5, (by kernel_rfl)
  go_wp2
  go_end0
  exact ⟨rfl, rfl⟩

set_option maxRecDepth 100000 in
set_option maxHeartbeats 800000 in
theorem writeIt (fb f q bq bw : Nat) (v o : Int) (w : World) (hq : q < 32) (h1 : w.cell? ⟨fb, f * 32 + q, none⟩ = some (.int .u32 o)) (h4 : w.frozen? ⟨fb, f * 32 + q, none⟩ = false) (h2 : w.cell? ⟨bq, 0, none⟩ = some (.int .i64 q)) (h3 : w.cell? ⟨bw, 0, none⟩ = some (.int .u32 v)) :
    Calls Tryz.prog 111 #[.pointer (some ⟨fb, f * 32, none⟩), .pointer (some ⟨bw, 0, none⟩), .pointer (some ⟨bq, 0, none⟩)] w fun e w' => e = .returned (.tuple #[]) ∧ w' = (w.setCell ⟨fb, f * 32 + q, none⟩ (.int .u32 v)).drew := by
  have hq' : (q : Int) < 32 := by omega
  go_enter Tryz.func111, Tryz.ntmps111
  go_wp2
  go_still_tail 5, (by kernel_rfl)
  go_wp2
  go_end0
  exact ⟨rfl, rfl⟩
end Go.Proofs.YtfpcoomkbmfchaaGreatDoor
