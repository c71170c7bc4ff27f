/- Texts of mine, joined: M1 M2 M3 M4 M5 M6 M7. What each says and under which conditions stands at its head, below. -/
import Derived.Test.YtnapodeiigkebaaRows
import Derived.WalkKit
import Derived.WalkSpells
import Derived.WalkLawsBesides
import Derived.Deep.QuietTactic
import Derived.BigQuiet
import Derived.Lib.Hide
import Derived.Laws.MakeOwn
import Derived.Laws.Rows
import Derived.StillTailTactics
import Derived.Below
import Derived.Deep.MidRow
import Derived.Deep.WholeRow
import Derived.OneCell
/- The contracts of the helpers of package mem: Frames, and what asks for a place of a frame. Conditions: the memory lies as New laid it. -/
namespace Go.Proofs.Ytnapodeiigkebaa
open Go.RowKit
set_option maxRecDepth 100000

/-- Words, as a row of cells. -/
def wordsV (L : List Int) : Array Value := (L.map (Value.int .u32)).toArray
theorem wordsV_get (L : List Int) (i : Nat) (h : i < L.length) : (wordsV L)[i]? = some (.int .u32 (L.getD i 0)) := by
  simp [wordsV, h]

/-- A memory lies at block mp; its frames' words, L, in block fb. -/
structure MemSt (w : World) (mp fb n : Nat) (L : List Int) : Prop where
  box : w.heap[mp]? = some (.cells #[.slice (some ⟨fb, 0, none⟩) n n] 76 (0, 0))
  row : w.heap[fb]? = some (.cells (wordsV L) 122 (0, 0))
  len : L.length = n * 32
  ne : mp ≠ fb
  pos : 0 < n
  top : n ≤ 1024

theorem MemSt.cellM {w : World} {mp fb n : Nat} {L : List Int} (h : MemSt w mp fb n L) : w.cell? ⟨mp, 0, none⟩ = some (.slice (some ⟨fb, 0, none⟩) n n) := by
  rw [cell_of_row w mp 0 _ _ _ h.box]; rfl

set_option maxRecDepth 100000 in
set_option maxHeartbeats 400000 in
theorem frames_some (mp : Nat) (a : Option Addr) (n c : Nat) (w : World) (h : w.cell? ⟨mp, 0, none⟩ = some (.slice a n c)) :
    Calls Try.prog 30 #[.pointer (some ⟨mp, 0, none⟩)] w fun e w' => e = .returned (.int .i64 n) ∧ w = w' := by
  go_enter Try.func30, Try.ntmps30
  go_wp2
  go_ret
  exact ⟨rfl, rfl⟩
set_option maxRecDepth 100000 in
set_option maxHeartbeats 400000 in
theorem frames_nil (w : World) :
    Calls Try.prog 30 #[.pointer none] w fun e w' => e = .returned (.int .i64 0) ∧ w = w' := by
  go_enter Try.func30, Try.ntmps30
  go_wp2
  go_ret
  exact ⟨rfl, rfl⟩

/-- What the closure that asks captured: the memory, the frame, the place. -/
structure AskSt (w : World) (bm bf bp : Nat) (p : Value) (f q : Int) : Prop where
  m : w.cell? ⟨bm, 0, none⟩ = some p
  f : w.cell? ⟨bf, 0, none⟩ = some (.int .i64 f)
  q : w.cell? ⟨bp, 0, none⟩ = some (.int .i64 q)

end Go.Proofs.Ytnapodeiigkebaa

/- The contracts of what asks for a place of a frame, package mem. Conditions: the memory lies as New laid it; what is done with the frame has a contract. -/
namespace Go.Proofs.Ytnapodeiigkebaa
open Go.RowKit
set_option maxRecDepth 100000

/-- A function with a body is entered. -/
theorem enters {k : Nat} {fn : Func} (h : Try.prog.funcs[k]? = some fn) (hn : (fn.name == "runtime.NumGoroutine") = false) (hb : fn.body.isNone = false) (args : Array Value) (W : World) : (callFunc k args).run Try.prog W = .ok (.enter k args) W := by
  have h1 : ¬ fn.name = "runtime.NumGoroutine" := by simpa using hn
  have h2 : ¬ fn.body = none := by intro e; rw [e] at hb; exact absurd hb (by decide)
  simp [callFunc, Sem.run_bind, h, h1, h2]

/-- The place is there: what is done with the frame is done. -/
theorem ask_ok (k : Nat) (caps : Array Value) (hent : ∀ (args : Array Value) (W : World), (callFunc k args).run Try.prog W = .ok (.enter k args) W) (bm bf bp mp fb n f : Nat) (q : Int) (w : World) (Q : World → Prop) (h : AskSt w bm bf bp (.pointer (some ⟨mp, 0, none⟩)) f q) (hz : w.cell? ⟨mp, 0, none⟩ = some (.slice (some ⟨fb, 0, none⟩) n n)) (hf : f < n) (hq0 : 0 ≤ q) (hq : q < 32)
    (hdo : ∀ m, Calls Try.prog k (#[.pointer (some ⟨fb, f * 32, none⟩)] ++ caps) (w.drewN m) fun e w' => e = .returned (.tuple #[]) ∧ Q w') :
    Calls Try.prog 62 #[.func (.func k) #[] caps, .pointer (some ⟨bm, 0, none⟩), .pointer (some ⟨bf, 0, none⟩), .pointer (some ⟨bp, 0, none⟩)] w fun e w' => e = .returned (.int .i64 0) ∧ Q w' := by
  have h1 := h.m
  have h2 := h.f
  have h3 := h.q
  have HZ := Lib.hid hz
  have hd : decide ((f : Int) < 0) = false := decide_eq_false (by omega)
  have hd2 : decide ((n : Int) ≤ f) = false := decide_eq_false (by omega)
  clear h
  go_enter Try.func62, Try.ntmps62
  go_wp2_with (go_at_call 30; refine (frames_some _ _ _ _ _ HZ.out).mono ?_; rintro e w' ⟨rfl, rfl⟩)
  go_quiet ((go_at_call 30; exact Calls.quiet_of_same ((frames_some _ _ _ _ _ (by exact HZ.out)).mono fun _ _ h => ⟨h.1, h.2.symm⟩)))
  go_wp2
  obtain ⟨W2, hW2⟩ : ∃ W2, W2 = w.drewN nq := ⟨_, rfl⟩
  have c1 : W2.cell? ⟨bm, 0, none⟩ = some (.pointer (some ⟨mp, 0, none⟩)) := by rw [hW2]; exact h1
  have c2 : W2.cell? ⟨bf, 0, none⟩ = some (.int .i64 f) := by rw [hW2]; exact h2
  have c3 : W2.cell? ⟨mp, 0, none⟩ = some (.slice (some ⟨fb, 0, none⟩) n n) := by rw [hW2]; exact HZ.out
  have HD : Hid (Calls Try.prog k (#[.pointer (some ⟨fb, f * 32, none⟩)] ++ caps) W2.drew fun e w' => e = .returned (.tuple #[]) ∧ Q w') := Lib.hid (by rw [hW2]; exact hdo (nq + 1))
  rw [← hW2]
  clear hW2 h1 h2 h3 HZ hdo
  refine wp_region_still_tail 7 (by kernel_rfl) (by kernel_rfl) ?_
  simp only [List.take_succ_cons, List.take_zero, List.drop_succ_cons, List.drop_zero]
  repeat still_step
  try refine wpStill_nil ?_
  go_wp2_with fail
  refine HD.out.mono ?_
  rintro e w' ⟨rfl, hq⟩
  have HQ := Lib.hid hq
  clear hq
  go_wp2
  go_ret
  exact ⟨rfl, HQ.out⟩
end Go.Proofs.Ytnapodeiigkebaa

/- The contracts of what is done with a frame's words, package mem. Conditions: the frame's words lie in a block; the boxes that are captured are there. -/
namespace Go.Proofs.Ytnapodeiigkebaa
open Go.RowKit
set_option maxRecDepth 100000

/-- A frame's words, and the words with a frame's put. -/
def rowOf (L : List Int) (f : Nat) : List Int := (L.drop (f * 32)).take 32
def putRow (L : List Int) (f : Nat) (R : List Int) : List Int := L.take (f * 32) ++ R ++ L.drop (f * 32 + 32)
def zeros : List Int := List.replicate 32 0

theorem rowOf_length {L : List Int} {f n : Nat} (h : L.length = n * 32) (hf : f < n) : (rowOf L f).length = 32 := by
  simp [rowOf, h]; omega
theorem wordsV_size (L : List Int) : (wordsV L).size = L.length := by simp [wordsV]
theorem wordsV_toList (L : List Int) : (wordsV L).toList = L.map (Value.int .u32) := by simp [wordsV]
theorem wordsV_set (L : List Int) (i : Nat) (v : Int) : (wordsV L).setIfInBounds i (.int .u32 v) = wordsV (L.set i v) := by
  apply Array.ext'
  simp [wordsV, List.map_set]
theorem rowOf_at {L : List Int} {f n : Nat} (h : L.length = n * 32) (hf : f < n) (j : Nat) (v : Value) (hv : ((rowOf L f).map (Value.int .u32))[j]? = some v) : (wordsV L)[f * 32 + j]? = some v := by
  have hj : j < 32 := by have := (List.getElem?_eq_some_iff.1 hv).1; rw [List.length_map, rowOf_length h hf] at this; exact this
  rw [← hv]
  simp only [wordsV, List.getElem?_toArray, List.getElem?_map, rowOf, List.getElem?_take, List.getElem?_drop, if_pos hj]

/-- A frame is loaded whole. -/
theorem load_frame {P : Program} {ty : TypeId} {d : TypeDesc} (hu : P.underlying ty = some d) (hd : d.isRow = true) (hi : (P.info? ty).map (·.size) = some 32) {w : World} {fb f n : Nat} {L : List Int} {t : TypeId} (hg : w.heap[fb]? = some (.cells (wordsV L) t (0, 0))) (hl : L.length = n * 32) (hf : f < n) :
    (Instr.loadAt ty (.pointer (some ⟨fb, f * 32, none⟩))).run P w = .ok (.agg (wordsV (rowOf L f))) w :=
  run_loadAt_mid w fb (f * 32) ty ((rowOf L f).map (Value.int .u32)) d (fun j v hv => by rw [cell_of_row w fb _ _ _ _ hg]; exact rowOf_at hl hf j v hv) hu hd (by rw [List.length_map, rowOf_length hl hf]; exact hi)
/-- A frame is stored whole. -/
theorem store_frame {P : Program} {ty : TypeId} (hi : (P.info? ty).map (·.size) = some 32) {w : World} {fb f n : Nat} {L R : List Int} {t : TypeId} (hg : w.heap[fb]? = some (.cells (wordsV L) t (0, 0))) (hl : L.length = n * 32) (hf : f < n) (hR : R.length = 32) :
    (Instr.storeAt ty (.pointer (some ⟨fb, f * 32, none⟩)) (.agg (wordsV R))).run P w = .ok () (w.setRow fb (wordsV (putRow L f R))) := by
  have := run_storeCells_at P fb (f * 32) t (R.map (Value.int .u32)) 0 (wordsV L) w hg (by rw [List.length_map, wordsV_size, hR, hl]; omega) (fun v hv => by
    obtain ⟨x, _, rfl⟩ := List.mem_map.1 hv; rfl)
  have e : ((wordsV L).toList.take (f * 32 + 0) ++ R.map (Value.int .u32) ++ (wordsV L).toList.drop (f * 32 + 0 + (R.map (Value.int .u32)).length)).toArray = wordsV (putRow L f R) := by
    simp [wordsV, putRow, hR]
  rw [e] at this
  cases hq : P.info? ty with
  | none => simp [hq] at hi
  | some i =>
    have hs : i.size = 32 := by simpa [hq] using hi
    simp [Instr.storeAt, Instr.sureAddr, storeVar, Sem.run_bind, sizeOf, typeInfo, hq, hs, Value.cells, wordsV_toList, this, wordsV_size, hR]

theorem pageInfo : (Try.prog.info? 122).map (fun i => (i.zero, i.size)) = some (some (.agg (wordsV zeros)), 32) := by kernel_rfl
theorem pageUnder : ∃ d, Try.prog.underlying 122 = some d ∧ d.isRow = true := ⟨_, Try.underlying122, rfl⟩
theorem pageSize : (Try.prog.info? 122).map (·.size) = some 32 := (zero_of_info pageInfo).2
theorem pageZero (w : World) : (zeroValue 122).run Try.prog w = .ok (.agg (wordsV zeros)) w := (zero_of_info pageInfo).1 w
theorem load_page {w : World} {fb f n : Nat} {L : List Int} {t : TypeId} (hg : w.heap[fb]? = some (.cells (wordsV L) t (0, 0))) (hl : L.length = n * 32) (hf : f < n) :
    (Instr.loadAt 122 (.pointer (some ⟨fb, f * 32, none⟩))).run Try.prog w = .ok (.agg (wordsV (rowOf L f))) w :=
  let ⟨_, h1, h2⟩ := pageUnder
  load_frame h1 h2 pageSize hg hl hf
theorem store_page {w : World} {fb f n : Nat} {L R : List Int} {t : TypeId} (hg : w.heap[fb]? = some (.cells (wordsV L) t (0, 0))) (hl : L.length = n * 32) (hf : f < n) (hR : R.length = 32) :
    (Instr.storeAt 122 (.pointer (some ⟨fb, f * 32, none⟩)) (.agg (wordsV R))).run Try.prog w = .ok () (w.setRow fb (wordsV (putRow L f R))) := store_frame pageSize hg hl hf hR


section
variable {ops : Array Oper} {rest : List Oper} {op : Oper} {a : Act} {w : World} {Q : Exit → Act → World → Prop}
theorem wpList_load_page (hgd : op.guard = none) (x : Operand) (ho : op.op = .load 122 x) (fb f n : Nat) (L : List Int) (t : TypeId) (hx : a.eval x = .pointer (some ⟨fb, f * 32, none⟩)) (hg : w.heap[fb]? = some (.cells (wordsV L) t (0, 0))) (hl : L.length = n * 32) (hf : f < n)
    (h : wpList Try.prog ops Q rest (a.put op.dst (.agg (wordsV (rowOf L f)))) w) : wpList Try.prog ops Q (op :: rest) a w :=
  wpList_plain hgd fun _ hK => by
    unfold Oper.wp execOp
    simp only [ho, hx, Sem.run_bind, load_page hg hl hf, Result.andThen_ok]
    exact hK _ _ h
theorem wpList_store_page (hgd : op.guard = none) (x y : Operand) (ho : op.op = .store 122 x y) (fb f n : Nat) (L R : List Int) (t : TypeId) (hx : a.eval x = .pointer (some ⟨fb, f * 32, none⟩)) (hy : a.eval y = .agg (wordsV R)) (hg : w.heap[fb]? = some (.cells (wordsV L) t (0, 0))) (hl : L.length = n * 32) (hf : f < n) (hR : R.length = 32)
    (h : wpList Try.prog ops Q rest (a.put op.dst undef) (w.setRow fb (wordsV (putRow L f R)))) : wpList Try.prog ops Q (op :: rest) a w :=
  wpList_plain hgd fun _ hK => by
    unfold Oper.wp execOp
    simp only [ho, hx, hy, Sem.run_bind, store_page hg hl hf hR, Result.andThen_ok]
    exact hK _ _ h
end
theorem putRow_box (L R : List Int) (h : L.length = 32) : putRow L 0 R = R := by simp [putRow, h]

set_option maxRecDepth 100000 in
set_option maxHeartbeats 400000 in
theorem pageIt (fb f n bx : Nat) (L R : List Int) (w : World) (t t' : TypeId) (hg : w.heap[fb]? = some (.cells (wordsV L) t (0, 0))) (hl : L.length = n * 32) (hf : f < n) (hx : w.heap[bx]? = some (.cells (wordsV R) t' (0, 0))) (hR : R.length = 32) :
    Calls Try.prog 73 #[.pointer (some ⟨fb, f * 32, none⟩), .pointer (some ⟨bx, 0, none⟩)] w fun e w' => e = .returned (.tuple #[]) ∧ w' = w.setRow bx (wordsV (rowOf L f)) := by
  have hg := Lib.hid hg
  have hx := Lib.hid hx
  have hr : (rowOf L f).length = 32 := rowOf_length hl hf
  have hr := Lib.hid hr
  have hl := Lib.hid hl
  have hR1 := Lib.hid hR
  clear hR
  go_enter Try.func73, Try.ntmps73
  go_wp2_with (first | (refine wpList_load_page rfl (.tmp 4) rfl fb f n L t rfl hg.out hl.out hf ?_) | (refine wpList_store_page rfl (.tmp 1) (.tmp 5) rfl bx 0 1 R (rowOf L f) t' rfl rfl hx.out (by rw [hR1.out]) (by omega) hr.out ?_))
  go_end0
  exact ⟨rfl, by rw [putRow_box _ _ hR1.out]⟩

set_option maxRecDepth 100000 in
set_option maxHeartbeats 800000 in
theorem readIt (fb f q bq bw : Nat) (v o : Int) (w : World) (hq : q < 32) (h1 : w.cell? ⟨fb, f * 32 + q, none⟩ = some (.int .u32 v)) (h2 : w.cell? ⟨bq, 0, none⟩ = some (.int .i64 q)) (h3 : w.cell? ⟨bw, 0, none⟩ = some (.int .u32 o)) (h4 : w.frozen? ⟨bw, 0, none⟩ = false) :
    Calls Try.prog 93 #[.pointer (some ⟨fb, f * 32, none⟩), .pointer (some ⟨bq, 0, none⟩), .pointer (some ⟨bw, 0, none⟩)] w fun e w' => e = .returned (.tuple #[]) ∧ w' = (w.setCell ⟨bw, 0, none⟩ (.int .u32 v)).drew := by
  have hq' : (q : Int) < 32 := by omega
  go_enter Try.func93, Try.ntmps93
  go_wp2
  go_still_tail 5, (by kernel_rfl)
  go_wp2
  go_end0
  exact ⟨rfl, rfl⟩

set_option maxRecDepth 100000 in
set_option maxHeartbeats 800000 in
theorem writeIt (fb f q bq bw : Nat) (v o : Int) (w : World) (hq : q < 32) (h1 : w.cell? ⟨fb, f * 32 + q, none⟩ = some (.int .u32 o)) (h4 : w.frozen? ⟨fb, f * 32 + q, none⟩ = false) (h2 : w.cell? ⟨bq, 0, none⟩ = some (.int .i64 q)) (h3 : w.cell? ⟨bw, 0, none⟩ = some (.int .u32 v)) :
    Calls Try.prog 42 #[.pointer (some ⟨fb, f * 32, none⟩), .pointer (some ⟨bw, 0, none⟩), .pointer (some ⟨bq, 0, none⟩)] w fun e w' => e = .returned (.tuple #[]) ∧ w' = (w.setCell ⟨fb, f * 32 + q, none⟩ (.int .u32 v)).drew := by
  have hq' : (q : Int) < 32 := by omega
  go_enter Try.func42, Try.ntmps42
  go_wp2
  go_still_tail 5, (by kernel_rfl)
  go_wp2
  go_end0
  exact ⟨rfl, rfl⟩
end Go.Proofs.Ytnapodeiigkebaa

/- The contracts of package mem's Read and Write. Conditions: the memory lies as New laid it, or there is none. -/
namespace Go.Proofs.Ytnapodeiigkebaa
open Go.RowKit
set_option maxRecDepth 100000

/-- There is such a place. -/
def okFQ (n : Nat) (f q : Int) : Prop := 0 ≤ f ∧ f < n ∧ 0 ≤ q ∧ q < 32

/-- No memory: none is there, or nobody made it. -/
def NoMem (w : World) (p : Option Addr) : Prop := p = none ∨ ∃ mp, p = some ⟨mp, 0, none⟩ ∧ w.cell? ⟨mp, 0, none⟩ = some (.slice none 0 0)

theorem below_block {w w' : World} {k : Nat} {o : Obj} (hb : Below w.heap.size w w') (h : w.heap[k]? = some o) : w'.heap[k]? = some o :=
  (hb.block k (lt_of_block h)).trans h
theorem MemSt.below {w w' : World} {mp fb n : Nat} {L : List Int} (h : MemSt w mp fb n L) (hb : Below w.heap.size w w') : MemSt w' mp fb n L :=
  ⟨below_block hb h.box, below_block hb h.row, h.len, h.ne, h.pos, h.top⟩
theorem below_drewN {B : Nat} {a w : World} (h : Below B a w) (n : Nat) : Below B a (w.drewN n) := ⟨h.os, h.tape, h.output, h.size, h.block⟩
theorem below_from_drewN {B : Nat} {w w' : World} {n : Nat} (h : Below B (w.drewN n) w') : Below B w w' := ⟨h.os, h.tape, h.output, h.size, h.block⟩
theorem below_setRow {B : Nat} {a w : World} (h : Below B a w) {g : Nat} (hg : B ≤ g) (cs : Array Value) : Below B a (w.setRow g cs) :=
  h.trans ⟨rfl, rfl, rfl, by simp, fun k hk => by simp only [World.setRow, Array.getElem?_modify]; rw [if_neg (by omega)]⟩

theorem AskSt.start (w : World) (p : Value) (f q : Int) (t1 t2 t3 : TypeId) : AskSt (((w.alloc (.cells #[p] t1)).alloc (.cells #[.int .i64 f] t2)).alloc (.cells #[.int .i64 q] t3)) w.heap.size (w.heap.size + 1) (w.heap.size + 2) p f q := by
  refine ⟨?_, ?_, ?_⟩
  · rw [World.cell?_alloc_past _ _ _ (by simp; omega), World.cell?_alloc_past _ _ _ (by simp), World.cell?_alloc_at _ _ _ _ rfl]; rfl
  · rw [World.cell?_alloc_past _ _ _ (by simp), World.cell?_alloc_at _ _ _ _ (by simp)]; rfl
  · rw [World.cell?_alloc_at _ _ _ _ (by simp)]; rfl

set_option maxRecDepth 100000 in
set_option maxHeartbeats 400000 in
theorem in_any (p : Option Addr) (f q : Int) (w : World) :
    Calls Try.prog 41 #[.pointer p, .int .i64 f, .int .i64 q] w fun e w' => ∃ bm bf bp, e = .returned (.func (.func 62) #[] #[.pointer (some ⟨bm, 0, none⟩), .pointer (some ⟨bf, 0, none⟩), .pointer (some ⟨bp, 0, none⟩)]) ∧ AskSt w' bm bf bp (.pointer p) f q ∧ Below w.heap.size w w' := by
  have hmf : ∀ (fn : Fn) (first cap : Array Value) (w : World), (Instr.makeFunc fn first cap).run Try.prog w = .ok (.func fn first cap) w := fun _ _ _ _ => rfl
  go_enter Try.func41, Try.ntmps41
  go_wp2
  go_ret
  exact ⟨_, _, _, rfl, AskSt.start w (.pointer p) f q _ _ _, (((Below.refl _ _).alloc (Nat.le_refl _) _).alloc (by simp) _).alloc (by simp; omega) _⟩
set_option maxRecDepth 100000 in
set_option maxHeartbeats 400000 in
theorem whole_any (p : Option Addr) (f : Int) (w : World) :
    Calls Try.prog 72 #[.pointer p, .int .i64 f] w fun e w' => ∃ bm bf bp, e = .returned (.func (.func 62) #[] #[.pointer (some ⟨bm, 0, none⟩), .pointer (some ⟨bf, 0, none⟩), .pointer (some ⟨bp, 0, none⟩)]) ∧ AskSt w' bm bf bp (.pointer p) f 0 ∧ Below w.heap.size w w' := by
  go_enter Try.func72, Try.ntmps72
  go_wp2_with fail
  refine (in_any p f 0 w).mono ?_
  rintro e w1 ⟨bm, bf, bp, rfl, hA, hb⟩
  have HA := Lib.hid hA
  have HB := Lib.hid hb
  clear hA hb
  go_wp2
  go_ret
  exact ⟨_, _, _, rfl, HA.out, HB.out⟩

theorem enters_Read1 (args : Array Value) (W : World) : (callFunc 93 args).run Try.prog W = .ok (.enter 93 args) W := enters Try.func93 rfl rfl args W
theorem enters_Write1 (args : Array Value) (W : World) : (callFunc 42 args).run Try.prog W = .ok (.enter 42 args) W := enters Try.func42 rfl rfl args W
theorem enters_Page1 (args : Array Value) (W : World) : (callFunc 73 args).run Try.prog W = .ok (.enter 73 args) W := enters Try.func73 rfl rfl args W

theorem two_new (w : World) (u v : Value) (t1 t2 : TypeId) : ((w.alloc (.cells #[u] t1)).alloc (.cells #[v] t2)).heap[w.heap.size]? = some (.cells #[u] t1 (0, 0)) ∧ ((w.alloc (.cells #[u] t1)).alloc (.cells #[v] t2)).heap[w.heap.size + 1]? = some (.cells #[v] t2 (0, 0)) :=
  ⟨heap_alloc2_old _ _ _, heap_alloc2_new _ _ _⟩
theorem below_two (w : World) (u v : Obj) : Below w.heap.size w ((w.alloc u).alloc v) := ((Below.refl _ _).alloc (Nat.le_refl _) _).alloc (by simp) _

theorem MemSt.cellF {w : World} {mp fb n : Nat} {L : List Int} (h : MemSt w mp fb n L) {f q : Nat} (hf : f < n) (hq : q < 32) : w.cell? ⟨fb, f * 32 + q, none⟩ = some (.int .u32 (L.getD (f * 32 + q) 0)) := by
  rw [cell_of_row w fb _ _ _ _ h.row]
  exact wordsV_get L _ (by rw [h.len]; omega)
theorem MemSt.freeF {w : World} {mp fb n : Nat} {L : List Int} (h : MemSt w mp fb n L) (i : Nat) : w.frozen? ⟨fb, i, none⟩ = false := frozen_of_row w fb i _ _ h.row

set_option maxRecDepth 100000 in
set_option maxHeartbeats 800000 in
theorem read_ok (mp fb n f q : Nat) (L : List Int) (w : World) (hm : MemSt w mp fb n L) (hf : f < n) (hq : q < 32) :
    Calls Try.prog 70 #[.pointer (some ⟨mp, 0, none⟩), .int .i64 f, .int .i64 q] w fun e w' => e = .returned (.tuple #[.int .u32 (L.getD (f * 32 + q) 0), .int .i64 0]) ∧ Below w.heap.size w w' := by
  have hmf : ∀ (fn : Fn) (first cap : Array Value) (w : World), (Instr.makeFunc fn first cap).run Try.prog w = .ok (.func fn first cap) w := fun _ _ _ _ => rfl
  have HM := Lib.hid hm
  clear hm
  go_enter Try.func70, Try.ntmps70
  go_wp2_with fail
  refine (in_any _ _ _ _).mono ?_
  rintro e w1 ⟨bm, bf, bp, rfl, hA, hb⟩
  have B1 := Lib.hid ((below_two w (.cells #[.int .i64 q] 3) (.cells #[.int .u32 0] 57)).trans (hb.mono (by simp; omega)))
  have hw := Lib.hid (below_block hb (two_new w (.int .i64 q) (.int .u32 0) 3 57).2)
  have hq1 := Lib.hid (below_block hb (two_new w (.int .i64 q) (.int .u32 0) 3 57).1)
  have HA := Lib.hid hA
  have HM1 := Lib.hid (HM.out.below B1.out)
  clear hA hb
  go_wp2_with fail
  refine (ask_ok _ _ enters_Read1 bm bf bp mp fb n f q w1 (fun w' => Below (w.heap.size + 1) w1 w' ∧ w'.cell? ⟨w.heap.size + 1, 0, none⟩ = some (.int .u32 (L.getD (f * 32 + q) 0))) HA.out HM1.out.cellM hf (by omega) (by omega) (fun m => ?_)).mono ?_
  · refine (readIt fb f q w.heap.size (w.heap.size + 1) (L.getD (f * 32 + q) 0) 0 (w1.drewN m) hq (HM1.out.cellF hf hq) (cell_of_one hq1.out) (cell_of_one hw.out) (free_of_one hw.out)).mono ?_
    rintro e w' ⟨rfl, rfl⟩
    refine ⟨rfl, below_from_drewN (((Below.refl _ _).setCell (p := ⟨w.heap.size + 1, 0, none⟩) (Nat.le_refl _) _).drew), ?_⟩
    exact World.cell?_setCell_same _ _ _ (cell_of_one hw.out)
  rintro e w2 ⟨rfl, hb, hw2⟩
  have B2 := Lib.hid (B1.out.trans (hb.mono (by omega)))
  clear hb
  go_wp2
  go_ret2
  exact ⟨rfl, B2.out⟩
end Go.Proofs.Ytnapodeiigkebaa

/- The contracts of package mem's Write, Zero, Page. Conditions: the memory lies as New laid it, or there is none. -/
namespace Go.Proofs.Ytnapodeiigkebaa
open Go.RowKit
set_option maxRecDepth 100000

theorem grownBy_of_below {w w' : World} (h : Below w.heap.size w w') (r : Option Nat) : w.grownBy w' r := ⟨h.os, h.tape, h.output, h.size, fun k hk _ => h.block k hk⟩
theorem below_of_grownBy {w w' : World} {r : Nat} (h : w.grownBy w' (some r)) {B : Nat} (hB : B ≤ w.heap.size) (hr : B ≤ r) : Below B w w' := ⟨h.os, h.tape, h.output, h.size, fun k hk => h.block k (by omega) (fun e => by have := Option.some.inj e; omega)⟩
theorem grownBy_trans {a b c : World} {r : Option Nat} (h : a.grownBy b r) (k : b.grownBy c r) : a.grownBy c r :=
  ⟨k.os.trans h.os, k.tape.trans h.tape, k.output.trans h.output, Nat.le_trans h.size k.size, fun i hi hne => (k.block i (Nat.lt_of_lt_of_le hi h.size) hne).trans (h.block i hi hne)⟩
theorem grownBy_setCell (w : World) (g i : Nat) (u : Value) : w.grownBy (w.setCell ⟨g, i, none⟩ u) (some g) :=
  ⟨rfl, rfl, rfl, by simp [World.setCell], fun k _ hne => Below.heap_setCell _ _ _ _ (fun e => hne (by rw [e]))⟩
theorem grownBy_setRow (w : World) (g : Nat) (cs : Array Value) : w.grownBy (w.setRow g cs) (some g) :=
  ⟨rfl, rfl, rfl, by simp, fun k _ hne => by simp only [World.setRow, Array.getElem?_modify]; rw [if_neg (fun e => hne (by rw [e]))]⟩
theorem grownBy_heap {a b c : World} {r : Option Nat} (h : a.grownBy b r) (e1 : c.heap = b.heap) (e2 : c.os = b.os) (e3 : c.tape = b.tape) (e4 : c.output = b.output) : a.grownBy c r :=
  ⟨e2.trans h.os, e3.trans h.tape, e4.trans h.output, by rw [e1]; exact h.size, fun k hk hne => by rw [e1]; exact h.block k hk hne⟩
theorem grownBy_from {a b c : World} {r : Option Nat} (h : b.grownBy c r) (e1 : b.heap = a.heap) (e2 : b.os = a.os) (e3 : b.tape = a.tape) (e4 : b.output = a.output) : a.grownBy c r :=
  ⟨h.os.trans e2, h.tape.trans e3, h.output.trans e4, by rw [← e1]; exact h.size, fun k hk hne => by rw [← e1]; exact h.block k (by rw [e1]; exact hk) hne⟩

theorem MemSt.row_ne {w w' : World} {mp fb n : Nat} {L L' : List Int} (h : MemSt w mp fb n L) (hg : w.grownBy w' (some fb)) (hr : w'.heap[fb]? = some (.cells (wordsV L') 122 (0, 0))) (hl : L'.length = n * 32) : MemSt w' mp fb n L' :=
  ⟨(hg.block mp (lt_of_block h.box) (fun e => h.ne (Option.some.inj e))).trans h.box, hr, hl, h.ne, h.pos, h.top⟩

/-- What a call does that changes the memory's words. -/
structure Puts (w w' : World) (mp fb n : Nat) (L : List Int) : Prop where
  st : MemSt w' mp fb n L
  grown : w.grownBy w' (some fb)
theorem Puts.ahead {w w1 w' : World} {mp fb n : Nat} {L : List Int} (hb : Below w.heap.size w w1) (h : Puts w1 w' mp fb n L) : Puts w w' mp fb n L := ⟨h.st, grownBy_trans (grownBy_of_below hb _) h.grown⟩
/-- The words with one of them put. -/
theorem set_page {w : World} {mp fb n f q : Nat} {L : List Int} (m : Nat) (v : Int) (h : MemSt w mp fb n L) : Puts w ((w.drewN m).setCell ⟨fb, f * 32 + q, none⟩ (.int .u32 v)).drew mp fb n (L.set (f * 32 + q) v) := by
  have hg : w.grownBy ((w.drewN m).setCell ⟨fb, f * 32 + q, none⟩ (.int .u32 v)).drew (some fb) := grownBy_from (b := w.drewN m) (grownBy_heap (grownBy_setCell _ _ _ _) rfl rfl rfl rfl) rfl rfl rfl rfl
  refine ⟨h.row_ne hg ?_ (by rw [List.length_set]; exact h.len), hg⟩
  have := heap_setCell_same (w.drewN m) fb (f * 32 + q) (wordsV L) 122 (.int .u32 v) h.row
  rw [wordsV_set] at this
  exact this
set_option maxRecDepth 100000 in
set_option maxHeartbeats 800000 in
theorem write_ok (mp fb n f q : Nat) (L : List Int) (v : Int) (w : World) (hm : MemSt w mp fb n L) (hf : f < n) (hq : q < 32) :
    Calls Try.prog 21 #[.pointer (some ⟨mp, 0, none⟩), .int .i64 f, .int .i64 q, .int .u32 v] w fun e w' => e = .returned (.int .i64 0) ∧ Puts w w' mp fb n (L.set (f * 32 + q) v) := by
  have hmf : ∀ (fn : Fn) (first cap : Array Value) (w : World), (Instr.makeFunc fn first cap).run Try.prog w = .ok (.func fn first cap) w := fun _ _ _ _ => rfl
  have HM := Lib.hid hm
  clear hm
  go_enter Try.func21, Try.ntmps21
  go_wp2_with fail
  refine (in_any _ _ _ _).mono ?_
  rintro e w1 ⟨bm, bf, bp, rfl, hA, hb⟩
  have B1 := Lib.hid ((below_two w (.cells #[.int .i64 q] 3) (.cells #[.int .u32 v] 57)).trans (hb.mono (by simp; omega)))
  have hw := Lib.hid (below_block hb (two_new w (.int .i64 q) (.int .u32 v) 3 57).2)
  have hq1 := Lib.hid (below_block hb (two_new w (.int .i64 q) (.int .u32 v) 3 57).1)
  have HA := Lib.hid hA
  have HM1 := Lib.hid (HM.out.below B1.out)
  clear hA hb
  go_wp2_with fail
  refine (ask_ok _ _ enters_Write1 bm bf bp mp fb n f q w1 (fun w' => Puts w1 w' mp fb n (L.set (f * 32 + q) v)) HA.out HM1.out.cellM hf (by omega) (by omega) (fun m => ?_)).mono ?_
  · refine (writeIt fb f q w.heap.size (w.heap.size + 1) v (L.getD (f * 32 + q) 0) (w1.drewN m) hq (HM1.out.cellF hf hq) (HM1.out.freeF _) (cell_of_one hq1.out) (cell_of_one hw.out)).mono ?_
    rintro e w' ⟨rfl, rfl⟩
    exact ⟨rfl, set_page m v HM1.out⟩
  rintro e w2 ⟨rfl, hb⟩
  have B2 := Lib.hid (Puts.ahead B1.out hb)
  clear hb
  go_wp2
  go_ret
  exact ⟨rfl, B2.out⟩

/-- A slice of new memory that has these words. -/
def NewRow (B : Nat) (w : World) (v : Value) (R : List Int) : Prop := ∃ b t, v = .slice (some ⟨b, 0, none⟩) R.length R.length ∧ B ≤ b ∧ w.heap[b]? = some (.cells (wordsV R) t (0, 0))

set_option maxRecDepth 100000 in
set_option maxHeartbeats 800000 in
theorem page_ok (mp fb n f : Nat) (L : List Int) (w : World) (hm : MemSt w mp fb n L) (hf : f < n) :
    Calls Try.prog 48 #[.pointer (some ⟨mp, 0, none⟩), .int .i64 f] w fun e w' => ∃ v, e = .returned (.tuple #[v, .int .i64 0]) ∧ NewRow w.heap.size w' v (rowOf L f) ∧ Below w.heap.size w w' := by
  have hmf : ∀ (fn : Fn) (first cap : Array Value) (w : World), (Instr.makeFunc fn first cap).run Try.prog w = .ok (.func fn first cap) w := fun _ _ _ _ => rfl
  have hz := pageZero
  have HM := Lib.hid hm
  clear hm
  go_enter Try.func48, Try.ntmps48
  go_wp2_with fail
  refine (whole_any _ _ _).mono ?_
  rintro e w1 ⟨bm, bf, bp, rfl, hA, hb⟩
  have B1 := Lib.hid (((Below.refl _ _).alloc (Nat.le_refl _) (.cells (wordsV zeros) 122)).trans (hb.mono (by simp)))
  have hx := Lib.hid (below_block hb (heap_alloc_new w (.cells (wordsV zeros) 122)))
  have HA := Lib.hid hA
  have HM1 := Lib.hid (HM.out.below B1.out)
  clear hA hb
  go_wp2_with fail
  refine (ask_ok _ _ enters_Page1 bm bf bp mp fb n f 0 w1 (fun w' => Below w.heap.size w1 w' ∧ w'.heap[w.heap.size]? = some (.cells (wordsV (rowOf L f)) 122 (0, 0))) HA.out HM1.out.cellM hf (by omega) (by omega) (fun m => ?_)).mono ?_
  · refine (pageIt fb f n w.heap.size L zeros (w1.drewN m) _ _ HM1.out.row HM1.out.len hf hx.out rfl).mono ?_
    rintro e w' ⟨rfl, rfl⟩
    exact ⟨rfl, below_setRow (below_drewN (Below.refl _ _) m) (Nat.le_refl _) _, setRow_heap (w1.drewN m) _ _ _ _ _ hx.out⟩
  rintro e w2 ⟨rfl, hb, hr⟩
  have B2 := Lib.hid (B1.out.trans hb)
  have HR := Lib.hid hr
  have hlen := Lib.hid (rowOf_length HM1.out.len hf)
  clear hb hr
  go_wp2
  go_ret2
  exact ⟨_, rfl, ⟨w.heap.size, _, by rw [hlen.out]; rfl, Nat.le_refl _, HR.out⟩, B2.out⟩
end Go.Proofs.Ytnapodeiigkebaa

/- The contracts of package mem's Copy and New. Conditions: the memory lies as New laid it, or there is none. -/
namespace Go.Proofs.Ytnapodeiigkebaa
open Go.RowKit
set_option maxRecDepth 100000

theorem pageInfoB : (Try.prog.info? 122).map (fun i => (i.zero, i.size, i.bytes)) = some (some (.agg (wordsV zeros)), 32, 128) := by kernel_rfl
theorem made_page (n : Nat) : madeCells (wordsV zeros) (n * 32) = wordsV (List.replicate (n * 32) 0) := by
  have e : ∀ i, i < 32 → (wordsV zeros)[i]! = .int .u32 0 := fun i hi => by
    rw [show wordsV zeros = Array.replicate 32 (.int .u32 0) from rfl, getElem!_pos _ i (by simpa using hi), Array.getElem_replicate]
  apply Array.ext
  · rw [size_madeCells, wordsV_size, List.length_replicate]
  · intro i h1 h2
    have h3 : i % (wordsV zeros).size < 32 := Nat.mod_lt _ (by decide)
    have : (madeCells (wordsV zeros) (n * 32))[i] = (wordsV zeros)[i % (wordsV zeros).size]! := by simp only [madeCells, Array.getElem_map, Array.getElem_range]
    rw [this, e _ h3]
    simp [wordsV]
theorem make_pages (n : Nat) (hn : n ≤ 1024) (w : World) : (Instr.makeSlice 74 (.int .i64 (n : Int)) (.int .i64 (n : Int))).run Try.prog w = .ok (.slice (some ⟨w.heap.size, 0, none⟩) n n) (w.alloc (.cells (wordsV (List.replicate (n * 32) 0)) 122)) := by
  have h := pageInfoB
  cases hq : Try.prog.info? 122 with
  | none => rw [hq] at h; cases h
  | some i =>
    rw [hq] at h
    simp only [Option.map_some, Option.some.injEq, Prod.mk.injEq] at h
    obtain ⟨h1, h2, h3⟩ := h
    have := run_make (P := Try.prog) w 74 122 i _ Try.underlying74 hq h1 .i64 .i64 n n (by omega) (by omega) (by rw [h3]; omega) (by omega)
    rw [h2] at this
    simpa [Value.cells, made_page] using this

set_option maxRecDepth 100000 in
set_option maxHeartbeats 400000 in
theorem new_bad (n : Int) (w : World) (hn : n < 1 ∨ 1024 < n) : Calls Try.prog 10 #[.int .i64 n] w fun e w' => e = .returned (.tuple #[.pointer none, .int .i64 2]) ∧ w = w' := by
  rcases hn with hn | hn
  all_goals
    go_enter Try.func10, Try.ntmps10
    go_wp2
    go_ret2
    exact ⟨rfl, rfl⟩
/-- What New of so many frames leaves. -/
def NewPost (n : Nat) (w : World) (e : Ending) (w' : World) : Prop := ∃ mp fb, e = .returned (.tuple #[.pointer (some ⟨mp, 0, none⟩), .int .i64 0]) ∧ MemSt w' mp fb n (List.replicate (n * 32) 0) ∧ w.heap.size ≤ mp ∧ w.heap.size ≤ fb ∧ Below w.heap.size w w'
set_option maxRecDepth 100000 in
set_option maxHeartbeats 400000 in
theorem new_ok (n : Nat) (w : World) (h0 : 1 ≤ n) (h1 : n ≤ 1024) : Calls Try.prog 10 #[.int .i64 n] w (NewPost n w) := by
  have hmk := make_pages n h1
  have a1 : ¬ (n : Int) < 1 := by omega
  have a2 : ¬ (1024 : Int) < n := by omega
  go_enter Try.func10, Try.ntmps10
  go_wp2
  go_ret2
  refine ⟨w.heap.size + 1, w.heap.size, rfl, MemSt.mk ?_ ?_ (by simp) ?_ h0 h1, ?_, ?_, ?_⟩
  · exact heap_alloc2_new _ _ _
  · exact heap_alloc2_old _ _ _
  · omega
  · omega
  · omega
  · exact ((Below.refl _ _).alloc (Nat.le_refl _) _).alloc (by simp) _
end Go.Proofs.Ytnapodeiigkebaa

/- The contract of awake, layer 2's laws: it returns true. No condition. -/
namespace Go.Proofs.Ytnapodeiigkebaa
open Go.RowKit
set_option maxRecDepth 100000

end Go.Proofs.Ytnapodeiigkebaa
