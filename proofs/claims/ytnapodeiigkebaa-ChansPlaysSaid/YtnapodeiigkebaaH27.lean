/- The document's channels in memory; the contracts of its May, Room, Next. Conditions: they lie in memory. -/
import Derived.Test.YtnapodeiigkebaaH18
namespace Go.Proofs.Ytnapodeiigkebaa
open Go.RowKit
set_option maxRecDepth 100000

/-- The cells of the document's rings. -/
def rcell (H : List Row) (lvs : Nat → Value) (out : Nat → Nat) (n : Nat) : Value :=
  match n % 4 with
  | 0 => .int .i64 ((H.getD (n / 4) []).getD 2 0)
  | 1 => .int .i64 ((H.getD (n / 4) []).getD 3 0)
  | 2 => lvs (n / 4)
  | _ => .int .i64 (out (n / 4) : Int)
def rrow (H : List Row) (lvs : Nat → Value) (out : Nat → Nat) (m : Nat) : List Value := (List.range m).map (rcell H lvs out)
theorem rrow_len (H : List Row) (lvs : Nat → Value) (out : Nat → Nat) (m : Nat) : (rrow H lvs out m).length = m := by simp [rrow]
theorem rrow_get (H : List Row) (lvs : Nat → Value) (out : Nat → Nat) {m n : Nat} (h : n < m) : (rrow H lvs out m)[n]? = some (rcell H lvs out n) := by simp [rrow, h]
theorem rcell_0 (H : List Row) (lvs : Nat → Value) (out : Nat → Nat) (i : Nat) : rcell H lvs out (i * 4) = .int .i64 ((H.getD i []).getD 2 0) := by
  unfold rcell; rw [show i * 4 % 4 = 0 by omega, show i * 4 / 4 = i by omega]; rfl
theorem rcell_1 (H : List Row) (lvs : Nat → Value) (out : Nat → Nat) (i : Nat) : rcell H lvs out (i * 4 + 1) = .int .i64 ((H.getD i []).getD 3 0) := by
  unfold rcell; rw [show (i * 4 + 1) % 4 = 1 by omega, show (i * 4 + 1) / 4 = i by omega]; rfl
theorem rcell_2 (H : List Row) (lvs : Nat → Value) (out : Nat → Nat) (i : Nat) : rcell H lvs out (i * 4 + 2) = lvs i := by
  unfold rcell; rw [show (i * 4 + 2) % 4 = 2 by omega, show (i * 4 + 2) / 4 = i by omega]; rfl
theorem rcell_3 (H : List Row) (lvs : Nat → Value) (out : Nat → Nat) (i : Nat) : rcell H lvs out (i * 4 + 3) = .int .i64 (out i : Int) := by
  unfold rcell; rw [show (i * 4 + 3) % 4 = 3 by omega, show (i * 4 + 3) / 4 = i by omega]; rfl
theorem rrow_set (H : List Row) (lvs : Nat → Value) (out : Nat → Nat) (m i : Nat) (lv : Value) (o : Nat) : ((rrow H lvs out m).set (i * 4 + 2) lv).set (i * 4 + 3) (.int .i64 (o : Int)) = rrow H (updH lvs i lv) (updH out i o) m := by
  refine List.ext_getElem? fun n => ?_
  by_cases hn : n < m
  · rw [rrow_get _ _ _ hn]
    simp only [List.getElem?_set, List.length_set, rrow_len]
    by_cases e3 : i * 4 + 3 = n
    · subst e3; rw [if_pos rfl, if_pos hn, rcell_3, updH_same]
    · rw [if_neg e3]
      by_cases e2 : i * 4 + 2 = n
      · subst e2; rw [if_pos rfl, if_pos hn, rcell_2, updH_same]
      · rw [if_neg e2, rrow_get _ _ _ hn]
        congr 1
        unfold rcell
        by_cases hd : n / 4 = i
        · have hm : n % 4 = 0 ∨ n % 4 = 1 := by omega
          rcases hm with e | e <;> rw [e] <;> rfl
        · rw [updH_far _ _ hd, updH_far _ _ hd]
  · rw [List.getElem?_eq_none (by simp [rrow_len]; omega), List.getElem?_eq_none (by simp [rrow_len]; omega)]
/-- The document's channels: the configuration's rows, the rings' row, each one's list, how many came out of each. -/
structure RChAt (W w : World) (H : List Row) (cv lv : Value) (lvs : Nat → Value) (out : Nat → Nat) (T : Nat) (Q : Msgs) : Prop where
  bel : Below W.heap.size W w
  rows : RowsAt 4 W cv H
  own : w.ownsRow W.heap.size 83 4 lv H.length (rrow H lvs out (H.length * 4))
  ls : ∀ i, i < H.length → LsAt w (lvs i) (Q i)
  nums : ∀ i, i < H.length → ∃ (a b : Int) (c d : Nat), H.getD i [] = [a, b, (c : Int), (d : Int)] ∧ (1 ≤ c ∧ c ≤ 8) ∧ (1 ≤ d ∧ d ≤ 8) ∧ (Q i).length ≤ c
  outs : ∀ i, out i ≤ T
  few : H.length ≤ 16
section
variable {W w w' : World} {H : List Row} {cv lv : Value} {lvs : Nat → Value} {out : Nat → Nat} {T : Nat} {Q : Msgs} (h : RChAt W w H cv lv lvs out T Q)
include h
theorem RChAt.only {B : Nat → Prop} (ho : Only w w' B) (hB : ∀ k, B k → OtherG w k) (hR : ∀ k, lv.ownBlock = some k → ¬ B k) (hn : ∀ k, B k → W.heap.size ≤ k) : RChAt W w' H cv lv lvs out T Q :=
  ⟨Only.old h.bel ho h.bel.size hn, h.rows, ownsRow_only h.own ho hR, fun i hi => (h.ls i hi).only ho hB, h.nums, h.outs, h.few⟩
theorem RChAt.step (hb : Below w.heap.size w w') : RChAt W w' H cv lv lvs out T Q := h.only (B := fun _ => False) (Only.below hb) (fun _ e => e.elim) (fun _ _ e => e) (fun _ e => e.elim)
theorem RChAt.block {g : Nat} (hg : lv.ownBlock = some g) : (∃ cs, w.heap[g]? = some (.cells cs 83 (0, 0))) ∧ W.heap.size ≤ g := by
  refine ⟨own_block h.own hg, ?_⟩
  rcases h.own.2 with ⟨rfl, _⟩ | ⟨g', cap, cur, rfl, hb, _⟩
  · simp [Value.ownBlock] at hg
  · simp [Value.ownBlock] at hg
    omega
theorem RChAt.ring (i : Nat) (hi : i < H.length) : ∃ g cap, lv = .slice (some ⟨g, 0, none⟩) H.length cap ∧ ∀ j, j < 4 → w.cell? ⟨g, i * 4 + j, none⟩ = some (rcell H lvs out (i * 4 + j)) := by
  have hc := h.own
  rcases h.own.2 with ⟨_, h0⟩ | ⟨g, cap, cur, rfl, _, hg, _⟩
  · omega
  · refine ⟨g, cap, rfl, fun j hj => ?_⟩
    have := hc.cells (g := g) rfl (i * 4 + j) _ (rrow_get H lvs out (by omega))
    rw [Addr.add_mid, Nat.zero_add] at this
    exact this
theorem RChAt.lslice : ∃ a c, lv = .slice a H.length c := owns_slice h.own
theorem RChAt.row (i : Nat) (hi : i < H.length) : ∃ (cb co cc : Nat) (a b : Int) (c d : Nat), cv = .slice (some ⟨cb, co, none⟩) H.length cc ∧ H.getD i [] = [a, b, (c : Int), (d : Int)] ∧ (1 ≤ c ∧ c ≤ 8) ∧ (1 ≤ d ∧ d ≤ 8) ∧ (Q i).length ≤ c ∧
    ∀ V, Below w.heap.size w V → V.cell? ⟨cb, co + i * 4, none⟩ = some (.int .i64 a) ∧ V.cell? ⟨cb, co + i * 4 + 1, none⟩ = some (.int .i64 b) ∧ V.cell? ⟨cb, co + i * 4 + 2, none⟩ = some (.int .i64 (c : Int)) ∧ V.cell? ⟨cb, co + i * 4 + 3, none⟩ = some (.int .i64 (d : Int)) := by
  obtain ⟨a, b, c, d, hT, hc, hd, hl⟩ := h.nums i hi
  obtain ⟨aa, cc, rfl, hl3, h4, hcells⟩ := h.rows
  obtain ⟨cb, co, rfl, hlt, hcell⟩ := hcells.resolve_left (by intro e; rw [e] at hi; simp at hi)
  refine ⟨cb, co, cc, a, b, c, d, rfl, hT, hc, hd, hl, fun V hV => ?_⟩
  have hW : Below W.heap.size W V := h.bel.trans (hV.mono h.bel.size)
  have k := fun j hj => (hW.cell (p := ⟨cb, co + i * 4 + j, none⟩) hlt).trans (hcell i hi j hj)
  rw [hT] at k
  exact ⟨k 0 (by decide), k 1 (by decide), k 2 (by decide), k 3 (by decide)⟩
theorem RChAt.cslice : ∃ a c, cv = .slice a H.length c := let ⟨a, c, e, _⟩ := h.rows; ⟨a, c, e⟩
end
section
variable {W w : World} {H : List Row} {cv lv : Value} {lvs : Nat → Value} {out : Nat → Nat} {T : Nat} {Q : Msgs}
theorem rmayH_out (h : RChAt W w H cv lv lvs out T Q) (part ch : Int) (s : Bool) (hc : ¬ inH H ch) : Calls Try.prog 17 #[.agg #[cv, lv], .int .i64 part, .int .i64 ch, .bool s] w fun e w' => e = .returned (.int .i64 4) ∧ Below w.heap.size w w' := by
  have B1 := Lib.hid (below_step1 w (.cells #[cv, lv] 41))
  obtain ⟨a, c, rfl⟩ := h.cslice
  unfold inH at hc
  generalize H.length = n at hc B1 ⊢
  clear h
  by_cases h0 : ch < 0
  · have d0 : decide (ch < 0) = true := decide_eq_true h0
    clear hc
    go_enter Try.func17, Try.ntmps17
    go_wp2
    go_ret
    exact ⟨rfl, B1.out⟩
  · have d0 : decide (ch < 0) = false := decide_eq_false h0
    have d1 : decide ((n : Int) ≤ ch) = true := decide_eq_true (by omega)
    clear hc
    go_enter Try.func17, Try.ntmps17
    go_wp2
    go_ret
    exact ⟨rfl, B1.out⟩
theorem rmayH_in (h : RChAt W w H cv lv lvs out T Q) (part : Int) (i : Nat) (hi : i < H.length) (s : Bool) : Calls Try.prog 17 #[.agg #[cv, lv], .int .i64 part, .int .i64 (i : Int), .bool s] w fun e w' => e = .returned (.int .i64 (mayE H part (i : Int) s)) ∧ Below w.heap.size w w' := by
  have B1 := Lib.hid (below_step1 w (.cells #[cv, lv] 41))
  obtain ⟨cb, co, cc, a, b, c, d, rfl, hT, -, -, -, hr⟩ := h.row i hi
  obtain ⟨y0, y1, -, -⟩ := hr _ B1.out
  rw [mayE_nat hi, hT]
  simp only [List.getD_cons_zero, List.getD_cons_succ]
  have d0 : decide ((i : Int) < 0) = false := decide_eq_false (by omega)
  have d1 : decide ((H.length : Int) ≤ (i : Int)) = false := decide_eq_false (by omega)
  have d2 : decide (H.length ≤ i) = false := decide_eq_false (by omega)
  have i2 : i < H.length := hi
  generalize H.length = n at B1 y0 y1 d1 d2 i2 ⊢
  clear hr hT h hi
  cases s
  · by_cases hp : part = b
    · subst hp
      rw [if_pos (by simp)]
      go_enter Try.func17, Try.ntmps17
      go_wp2
      go_ret
      exact ⟨rfl, B1.out⟩
    · rw [if_neg (by simpa using hp)]
      go_enter Try.func17, Try.ntmps17
      go_wp2
      go_ret
      exact ⟨rfl, B1.out⟩
  · by_cases hp : part = a
    · subst hp
      rw [if_pos (by simp)]
      go_enter Try.func17, Try.ntmps17
      go_wp2
      go_ret
      exact ⟨rfl, B1.out⟩
    · rw [if_neg (by simpa using hp)]
      go_enter Try.func17, Try.ntmps17
      go_wp2
      go_ret
      exact ⟨rfl, B1.out⟩
theorem rmayH_ok (h : RChAt W w H cv lv lvs out T Q) (part ch : Int) (s : Bool) : Calls Try.prog 17 #[.agg #[cv, lv], .int .i64 part, .int .i64 ch, .bool s] w fun e w' => e = .returned (.int .i64 (mayE H part ch s)) ∧ Below w.heap.size w w' := by
  by_cases hc : inH H ch
  · obtain ⟨i, rfl, hi⟩ := inH_nat hc
    exact rmayH_in h part i hi s
  · have : mayE H part ch s = 4 := by unfold mayE; rw [if_neg hc]
    rw [this]
    exact rmayH_out h part ch s hc
theorem rroomH_ok (h : RChAt W w H cv lv lvs out T Q) (ch : Int) : Calls Try.prog 19 #[.agg #[cv, lv], .int .i64 ch] w fun e w' => e = .returned (.int .i64 (roomN H Q ch)) ∧ Below w.heap.size w w' := by
  have B1 := Lib.hid (below_step1 w (.cells #[cv, lv] 41))
  by_cases hc : inH H ch
  · obtain ⟨i, rfl, hi⟩ := inH_nat hc
    obtain ⟨cb, co, cc, a, b, c, d, rfl, hT, hc8, -, hq, hr⟩ := h.row i hi
    obtain ⟨-, -, y2, -⟩ := hr _ B1.out
    obtain ⟨g, cap, rfl, hg⟩ := (h.step B1.out).ring i hi
    have z2 := hg 2 (by decide)
    rw [rcell_2] at z2
    obtain ⟨la, lc, hl⟩ := (h.ls i hi).form
    rw [hl] at z2
    rw [roomN_nat hi, hT]
    simp only [List.getD_cons_zero, List.getD_cons_succ]
    have d0 : decide ((i : Int) < 0) = false := decide_eq_false (by omega)
    have d1 : decide ((H.length : Int) ≤ (i : Int)) = false := decide_eq_false (by omega)
    have d2 : decide (H.length ≤ i) = false := decide_eq_false (by omega)
    have i2 : i < H.length := hi
    generalize H.length = n at B1 y2 z2 d1 d2 i2 ⊢
    generalize (Q i).length = m at hq z2 ⊢
    have r1 : IntKind.i64.wrap ((c : Int) - (m : Int)) = (c : Int) - (m : Int) := IntWalk.i64_in _ (by omega)
    clear hr hT h hi hg hl hc
    go_enter Try.func19, Try.ntmps19
    go_wp2_with fail
    go_quiet (fail)
    go_wp2
    go_ret
    exact ⟨rfl, below_drewN B1.out _⟩
  · have e : roomN H Q ch = 0 := by unfold roomN; rw [if_neg hc]
    rw [e]
    obtain ⟨a, c, rfl⟩ := h.cslice
    unfold inH at hc
    generalize H.length = n at hc B1 ⊢
    clear h e
    by_cases h0 : ch < 0
    · have d0 : decide (ch < 0) = true := decide_eq_true h0
      clear hc
      go_enter Try.func19, Try.ntmps19
      go_wp2
      go_ret
      exact ⟨rfl, B1.out⟩
    · have d0 : decide (ch < 0) = false := decide_eq_false h0
      have d1 : decide ((n : Int) ≤ ch) = true := decide_eq_true (by omega)
      clear hc
      go_enter Try.func19, Try.ntmps19
      go_wp2
      go_ret
      exact ⟨rfl, B1.out⟩
end
end Go.Proofs.Ytnapodeiigkebaa
