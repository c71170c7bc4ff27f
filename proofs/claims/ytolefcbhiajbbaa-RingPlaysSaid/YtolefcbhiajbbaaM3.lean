/- The contracts of what is done with a frame's words, package mem. Conditions: the frame's words lie in a block; the boxes that are captured are there. -/
import Derived.Test.YtolefcbhiajbbaaM2
import Derived.Deep.MidRow
import Derived.Deep.WholeRow
namespace Go.Proofs.Ytolefcbhiajbbaa
open Go.RowKit
set_option maxRecDepth 100000

/-- A frame's words, and the words with a frame's put. -/
def rowOf (L : List Int) (f : Nat) : List Int := (L.drop (f * 32)).take 32
def putRow (L : List Int) (f : Nat) (R : List Int) : List Int := L.take (f * 32) ++ R ++ L.drop (f * 32 + 32)
def zeros : List Int := List.replicate 32 0

theorem rowOf_length {L : List Int} {f n : Nat} (h : L.length = n * 32) (hf : f < n) : (rowOf L f).length = 32 := by
  simp [rowOf, h]; omega
theorem putRow_length {L R : List Int} {f n : Nat} (h : L.length = n * 32) (hf : f < n) (hR : R.length = 32) : (putRow L f R).length = n * 32 := by
  simp [putRow, h, hR]; omega
theorem wordsV_size (L : List Int) : (wordsV L).size = L.length := by simp [wordsV]
theorem wordsV_one (L : List Int) : (wordsV L).all (·.oneCell') = true := by
  simp [wordsV, Value.oneCell']
theorem wordsV_toList (L : List Int) : (wordsV L).toList = L.map (Value.int .u32) := by simp [wordsV]
theorem wordsV_set (L : List Int) (i : Nat) (v : Int) : (wordsV L).setIfInBounds i (.int .u32 v) = wordsV (L.set i v) := by
  apply Array.ext'
  simp [wordsV, List.map_set]
theorem rowOf_at {L : List Int} {f n : Nat} (h : L.length = n * 32) (hf : f < n) (j : Nat) (v : Value) (hv : ((rowOf L f).map (Value.int .u32))[j]? = some v) : (wordsV L)[f * 32 + j]? = some v := by
  have hj : j < 32 := by have := (List.getElem?_eq_some_iff.1 hv).1; rw [List.length_map, rowOf_length h hf] at this; exact this
  rw [← hv]
  simp only [wordsV, List.getElem?_toArray, List.getElem?_map, rowOf, List.getElem?_take, List.getElem?_drop, if_pos hj]

/-- A frame is loaded whole. -/
theorem load_frame {P : Program} {ty : TypeId} {d : TypeDesc} (hu : P.underlying ty = some d) (hd : d.isRow = true) (hi : (P.info? ty).map (·.size) = some 32) {w : World} {fb f n : Nat} {L : List Int} {t : TypeId} (hg : w.heap[fb]? = some (.cells (wordsV L) t (0, 0))) (hl : L.length = n * 32) (hf : f < n) :
    (Instr.loadAt ty (.pointer (some ⟨fb, f * 32, none⟩))).run P w = .ok (.agg (wordsV (rowOf L f))) w :=
  run_loadAt_mid w fb (f * 32) ty ((rowOf L f).map (Value.int .u32)) d (fun j v hv => by rw [cell_of_row w fb _ _ _ _ hg]; exact rowOf_at hl hf j v hv) hu hd (by rw [List.length_map, rowOf_length hl hf]; exact hi)
/-- A frame is stored whole. -/
theorem store_frame {P : Program} {ty : TypeId} (hi : (P.info? ty).map (·.size) = some 32) {w : World} {fb f n : Nat} {L R : List Int} {t : TypeId} (hg : w.heap[fb]? = some (.cells (wordsV L) t (0, 0))) (hl : L.length = n * 32) (hf : f < n) (hR : R.length = 32) :
    (Instr.storeAt ty (.pointer (some ⟨fb, f * 32, none⟩)) (.agg (wordsV R))).run P w = .ok () (w.setRow fb (wordsV (putRow L f R))) := by
  have := run_storeCells_at P fb (f * 32) t (R.map (Value.int .u32)) 0 (wordsV L) w hg (by rw [List.length_map, wordsV_size, hR, hl]; omega) (fun v hv => by
    obtain ⟨x, _, rfl⟩ := List.mem_map.1 hv; rfl)
  have e : ((wordsV L).toList.take (f * 32 + 0) ++ R.map (Value.int .u32) ++ (wordsV L).toList.drop (f * 32 + 0 + (R.map (Value.int .u32)).length)).toArray = wordsV (putRow L f R) := by
    simp [wordsV, putRow, hR]
  rw [e] at this
  cases hq : P.info? ty with
  | none => simp [hq] at hi
  | some i =>
    have hs : i.size = 32 := by simpa [hq] using hi
    simp [Instr.storeAt, Instr.sureAddr, storeVar, Sem.run_bind, sizeOf, typeInfo, hq, hs, Value.cells, wordsV_toList, this, wordsV_size, hR]

section
variable {ops : Array Oper} {rest : List Oper} {op : Oper} {a : Act} {w : World} {Q : Exit → Act → World → Prop}
end
/-- A box of a page is a memory of one frame. -/
theorem rowOf_box (R : List Int) (h : R.length = 32) : rowOf R 0 = R := by simp [rowOf, List.take_of_length_le, h]
theorem putRow_box (L R : List Int) (h : L.length = 32) : putRow L 0 R = R := by simp [putRow, h]

end Go.Proofs.Ytolefcbhiajbbaa
