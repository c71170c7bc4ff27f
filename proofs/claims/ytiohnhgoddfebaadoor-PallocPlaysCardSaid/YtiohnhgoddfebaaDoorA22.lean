/- The contract of the document's own New, layer 9. Condition: the slice of ranges lies in memory. -/
import Derived.Test.YtiohnhgoddfebaaDoorA21
namespace Go.Proofs.YtiohnhgoddfebaaDoor
open Go.RowKit
set_option maxRecDepth 100000

theorem made_wordsM (n : Nat) : madeCells #[.int .u32 0] n = wordsV (List.replicate n 0) := by
  apply Array.ext
  · rw [size_madeCells, wordsV_size, List.length_replicate]
  · intro i h1 h2
    have h3 : i % 1 = 0 := Nat.mod_one i
    simp [madeCells, wordsV, h3]
theorem make_wordsM (n : Nat) (hn : n ≤ 1000000) (w : World) : (Instr.makeSlice 32 (.int .i64 (n : Int)) (.int .i64 (n : Int))).run Tryd.prog w = .ok (.slice (some ⟨w.heap.size, 0, none⟩) n n) (w.alloc (.cells (wordsV (List.replicate n 0)) 62)) := by
  obtain ⟨i, hi, h1, h2, h3⟩ := info_parts wordInfo
  have := run_make (P := Tryd.prog) w 32 62 i _ Tryd.underlying32 hi h1 .i64 .i64 n n (by omega) (by omega) (by rw [h3]; omega) (by omega)
  rw [h2] at this
  simpa [Value.cells, made_wordsM] using this

def RNewPostM (n : Nat) (w : World) (e : Ending) (w' : World) : Prop := ∃ rb, e = .returned (.tuple #[.agg #[.slice (some ⟨rb, 0, none⟩) (n * 32) (n * 32)], .int .i64 0]) ∧ w'.heap[rb]? = some (.cells (wordsV (List.replicate (n * 32) 0)) 62 (0, 0)) ∧ w.heap.size ≤ rb ∧ Below w.heap.size w w'
set_option maxRecDepth 100000 in
set_option maxHeartbeats 400000 in
theorem rnewM_ok (n : Nat) (w : World) (h0 : 1 ≤ n) (h1 : n ≤ 1024) : Calls Tryd.prog 28 #[.int .i64 n] w (RNewPostM n w) := by
  have hmk := make_wordsM (n * 32) (by omega)
  rw [show ((n * 32 : Nat) : Int) = (n : Int) * 32 by omega] at hmk
  have a1 : ¬ (n : Int) < 1 := by omega
  have a2 : ¬ (1024 : Int) < n := by omega
  go_enter Tryd.func28, Tryd.ntmps28
  go_wp2
  refine bodyPost_ret (v := .tuple #[.agg #[.slice (some ⟨w.heap.size + 1, 0, none⟩) (n * 32) (n * 32)], .int .i64 0]) (by simp [results, Tryd.results28, go_sem]) rfl ?_
  exact ⟨w.heap.size + 1, rfl, heap_alloc2_new _ _ _, by omega, below_two _ _ _⟩


theorem made_ints (n : Nat) : madeCells #[.int .i64 0] n = refsV n R0 := by
  apply Array.ext
  · rw [size_madeCells, refsV_size]
  · intro i h1 h2
    have h3 : i % 1 = 0 := Nat.mod_one i
    simp [madeCells, refsV, h3]
theorem intInfoM : (Tryd.prog.info? 3).map (fun i => (i.zero, i.size, i.bytes)) = some (some (.int .i64 0), 1, 8) := by kernel_rfl
theorem make_intsM (n : Nat) (hn : n ≤ 1000000) (w : World) : (Instr.makeSlice 35 (.int .i64 (n : Int)) (.int .i64 (n : Int))).run Tryd.prog w = .ok (.slice (some ⟨w.heap.size, 0, none⟩) n n) (w.alloc (.cells (refsV n R0) 3)) := by
  obtain ⟨i, hi, h1, h2, h3⟩ := info_parts intInfoM
  have := run_make (P := Tryd.prog) w 35 3 i _ Tryd.underlying35 hi h1 .i64 .i64 n n (by omega) (by omega) (by rw [h3]; omega) (by omega)
  rw [h2] at this
  simpa [Value.cells, made_ints] using this

/-- How many of the first ranges have a frame. -/
def cntP (P : List (Nat × Nat)) (x : Int) : Nat → Nat
  | 0 => 0
  | k + 1 => cntP P x k + if inP (P.getD k (0, 0)) x = true then 1 else 0
theorem cntP_le (P : List (Nat × Nat)) (x : Int) : ∀ k, cntP P x k ≤ k
  | 0 => Nat.le_refl _
  | k + 1 => by
    have := cntP_le P x k
    unfold cntP
    split <;> omega
theorem cntP_mono (P : List (Nat × Nat)) (x : Int) (i : Nat) : ∀ k, i ≤ k → cntP P x i ≤ cntP P x k
  | 0, h => by rw [Nat.le_zero.1 h]; exact Nat.le_refl _
  | k + 1, h => by
    by_cases e : i = k + 1
    · rw [e]; exact Nat.le_refl _
    · have := cntP_mono P x i k (by omega)
      rw [cntP]
      omega
theorem cntP_one (P : List (Nat × Nat)) (x : Int) (i k : Nat) (h : i < k) (hi : inP (P.getD i (0, 0)) x = true) : cntP P x i + 1 ≤ cntP P x k := by
  have := cntP_mono P x (i + 1) k h
  rw [cntP, if_pos hi] at this
  exact this
theorem cntP_two (P : List (Nat × Nat)) (x : Int) (i j k : Nat) (h : i < j) (hj : j < k) (h1 : inP (P.getD i (0, 0)) x = true) (h2 : inP (P.getD j (0, 0)) x = true) : 2 ≤ cntP P x k := by
  have a := cntP_one P x i j h h1
  have b := cntP_one P x j k hj h2
  omega
theorem cntP_some (P : List (Nat × Nat)) (x : Int) : ∀ k, 1 ≤ cntP P x k → ∃ i, i < k ∧ inP (P.getD i (0, 0)) x = true
  | 0, h => by simp [cntP] at h
  | k + 1, h => by
    by_cases hk : inP (P.getD k (0, 0)) x = true
    · exact ⟨k, Nat.lt_succ_self _, hk⟩
    · rw [cntP, if_neg hk] at h
      obtain ⟨i, hi, h2⟩ := cntP_some P x k h
      exact ⟨i, by omega, h2⟩
theorem cntP_pair (P : List (Nat × Nat)) (x : Int) : ∀ k, 2 ≤ cntP P x k → ∃ i j, i < j ∧ j < k ∧ inP (P.getD i (0, 0)) x = true ∧ inP (P.getD j (0, 0)) x = true
  | 0, h => by simp [cntP] at h
  | k + 1, h => by
    by_cases hk : inP (P.getD k (0, 0)) x = true
    · rw [cntP, if_pos hk] at h
      obtain ⟨i, hi, h2⟩ := cntP_some P x k (by omega)
      exact ⟨i, k, hi, Nat.lt_succ_self _, h2, hk⟩
    · rw [cntP, if_neg hk] at h
      obtain ⟨i, j, a, b, c, d⟩ := cntP_pair P x k h
      exact ⟨i, j, a, by omega, c, d⟩
theorem natQ_take_get (Q : List (Int × Int)) (j i : Nat) (hj : j ≤ Q.length) (hi : i < j) : (natQ (Q.take j)).getD i (0, 0) = (natQ Q).getD i (0, 0) := by
  rw [natQ_get _ _ (by rw [List.length_take]; omega), natQ_get _ _ (by omega)]
  simp [List.getD_eq_getElem?_getD, hi]
/-- All ranges lie among the frames. -/
def AllIn (n : Nat) (Q : List (Int × Int)) (k : Nat) : Prop := ∀ i, i < k → isInB (Q.getD i default).1 (Q.getD i default).2 n = true
theorem OkQ.allIn {n : Nat} {Q : List (Int × Int)} (h : OkQ n Q) : AllIn n Q Q.length := fun i hi => (h.2 i hi).1
theorem AllIn.at_ {n k : Nat} {Q : List (Int × Int)} (h : AllIn n Q k) (i : Nat) (hi : i < k) (hk : k ≤ Q.length) : ∃ f m : Nat, Q.getD i default = ((f : Int), (m : Int)) ∧ (natQ Q).getD i (0, 0) = (f, m) ∧ 1 ≤ m ∧ f + m ≤ n := by
  have := h i hi
  obtain ⟨q, hq⟩ : ∃ q, Q.getD i default = q := ⟨_, rfl⟩
  obtain ⟨x, y⟩ := q
  rw [hq] at this
  obtain ⟨f, m, e1, e2, h1, h2⟩ := isIn_nat this
  simp only at e1 e2
  subst e1 e2
  exact ⟨f, m, hq, by rw [natQ_get _ _ (by omega), hq]; simp, h1, h2⟩
theorem OkQ.apart {n : Nat} {Q : List (Int × Int)} (h : OkQ n Q) (i j : Nat) (hij : i < j) (hj : j < Q.length) : meetB ((natQ Q).getD i (0, 0)) ((natQ Q).getD j (0, 0)) = false := by
  have := (h.2 j hj).2 i (by rw [natQ_length, List.length_take]; omega)
  rw [natQ_take_get Q j i (by omega) hij] at this
  rw [natQ_get Q j hj]
  exact this
theorem OkQ.once {n : Nat} {Q : List (Int × Int)} (h : OkQ n Q) (x : Int) : cntP (natQ Q) x Q.length ≤ 1 := by
  by_cases h2 : 2 ≤ cntP (natQ Q) x Q.length
  · obtain ⟨i, j, hij, hj, a, b⟩ := cntP_pair _ _ _ h2
    have := h.apart i j hij hj
    have a := (inP_iff _ _).1 a
    have b := (inP_iff _ _).1 b
    rw [(meetB_iff _ _).2 (by omega)] at this
    cases this
  · omega
theorem okq_of {n : Nat} {Q : List (Int × Int)} (h1 : 1 ≤ Q.length) (h8 : Q.length ≤ 8) (ha : AllIn n Q Q.length) (hc : ∀ x : Nat, x < n → cntP (natQ Q) (x : Int) Q.length ≤ 1) : OkQ n Q := by
  refine ⟨⟨h1, h8⟩, fun j hj => ⟨ha j hj, fun i hi => ?_⟩⟩
  rw [natQ_length, List.length_take] at hi
  have hij : i < j := by omega
  rw [natQ_take_get Q j i (by omega) hij]
  obtain ⟨f, m, q1, p1, a1, a2⟩ := ha.at_ i (by omega) (Nat.le_refl _)
  obtain ⟨g, k, q2, p2, b1, b2⟩ := ha.at_ j hj (Nat.le_refl _)
  rw [p1, q2]
  simp only [Int.toNat_natCast]
  cases hm : meetB (f, m) (g, k) with
  | false => rfl
  | true =>
    have hm := (meetB_iff _ _).1 hm
    simp only at hm
    have := hc (max f g) (by omega)
    have h2 := cntP_two (natQ Q) ((max f g : Nat) : Int) i j Q.length hij hj (by rw [p1, inP_iff]; simp only; omega) (by rw [p2, inP_iff]; simp only; omega)
    omega
theorem OkQ.cast {n : Nat} {Q : List (Int × Int)} (h : OkQ n Q) : intP (natQ Q) = Q := by
  apply List.ext_getElem?
  intro i
  by_cases hi : i < Q.length
  · obtain ⟨f, m, q1, p1, _⟩ := h.allIn.at_ i hi (Nat.le_refl _)
    have e := intP_get (natQ Q) i (by rw [natQ_length]; exact hi)
    rw [p1] at e
    simp only [List.getD_eq_getElem?_getD] at e q1
    have l1 : i < (intP (natQ Q)).length := by rw [intP_length, natQ_length]; exact hi
    rw [List.getElem?_eq_getElem l1] at e ⊢
    rw [List.getElem?_eq_getElem hi] at q1 ⊢
    simp only [Option.getD_some] at e q1
    rw [e, q1]
  · rw [List.getElem?_eq_none (by rw [intP_length, natQ_length]; omega), List.getElem?_eq_none (by omega)]
theorem OkQ.fit {n : Nat} {Q : List (Int × Int)} (h : OkQ n Q) (hn : n ≤ 1024) : FitP n (natQ Q) R0 := by
  refine ⟨hn, by rw [natQ_length]; exact h.1.2, fun i hi => ?_, fun i j x hi hj a b => ?_, fun _ _ => rfl, fun _ => by simp⟩
  · rw [natQ_length] at hi
    obtain ⟨f, m, _, p1, a1, a2⟩ := h.allIn.at_ i hi (Nat.le_refl _)
    rw [p1]; exact ⟨a1, a2⟩
  · rw [natQ_length] at hi hj
    have h1 := h.once x
    rcases Nat.lt_trichotomy i j with e | e | e
    · have := cntP_two (natQ Q) x i j Q.length e hj a b; omega
    · exact e
    · have := cntP_two (natQ Q) x j i Q.length e hi b a; omega

def z3 : Array Value := #[.slice none 0 0, .slice none 0 0, .slice none 0 0]
theorem rpoolInfo : (Tryd.prog.info? 37).map (fun i => (i.zero, i.size)) = some (some (.agg #[.slice none 0 0, .slice none 0 0, .slice none 0 0]), 3) := by kernel_rfl
theorem rpoolZero (w : World) : (zeroValue 37).run Tryd.prog w = .ok (.agg #[.slice none 0 0, .slice none 0 0, .slice none 0 0]) w := (zero_of_info rpoolInfo).1 w
theorem rpoolSize : (Tryd.prog.info? 37).map (·.size) = some 3 := (zero_of_info rpoolInfo).2
theorem rpoolUnder : ∃ d, Tryd.prog.underlying 37 = some d ∧ d.isRow = true := ⟨_, Tryd.underlying37, rfl⟩
theorem load_rpool {w : World} {b : Nat} {cs : Array Value} {t : TypeId} (hg : w.heap[b]? = some (.cells cs t (0, 0))) (hT : cs.size = 3) : (loadVar 37 ⟨b, 0, none⟩).run Tryd.prog w = .ok (.agg cs) w := by
  obtain ⟨d, h1, h2⟩ := rpoolUnder
  exact run_loadVar_row w b t 37 cs (0, 0) d hg h1 (by cases d <;> simp_all) (by rw [rpoolSize, hT])
theorem results_rpool {fn : Func} {p q : Tmp} (h : fn.results = #[.cell p 37, .tmp q]) (tmps : Array Value) (w : World) (g : Nat) (cs : Array Value) (t : TypeId) (v : Value) (hp : tmps.getD p undef = .pointer (some ⟨g, 0, none⟩)) (hq : tmps.getD q undef = v)
    (hg : w.heap[g]? = some (.cells cs t (0, 0))) (hT : cs.size = 3) : (results fn tmps).run Tryd.prog w = .ok (.tuple #[.agg cs, v]) w := by
  have hp' : tmps[p]?.getD undef = .pointer (some ⟨g, 0, none⟩) := by simpa using hp
  have hq' : tmps[q]?.getD undef = v := by simpa using hq
  simp [results, h, hp', hq', asAddr, load_rpool hg hT]
/-- What New leaves. -/
def RNew9 (n : Nat) (Q : List (Int × Int)) (v : Value) (w : World) (e : Ending) (w' : World) : Prop :=
  (¬ OkQ n Q ∧ e = .returned (.tuple #[.agg z3, .int .i64 2]) ∧ Below w.heap.size w w') ∨
  (OkQ n Q ∧ ∃ rb qb, e = .returned (.tuple #[.agg #[v, .slice (some ⟨rb, 0, none⟩) (n * 32) (n * 32), .slice (some ⟨qb, 0, none⟩) n n], .int .i64 0]) ∧ w'.heap[rb]? = some (.cells (wordsV (List.replicate (n * 32) 0)) 62 (0, 0)) ∧ w'.heap[qb]? = some (.cells (refsV n R0) 3 (0, 0)) ∧ w.heap.size ≤ rb ∧ w.heap.size ≤ qb ∧ Below w.heap.size w w')
theorem rnew9_far (n q c : Nat) (Q : List (Int × Int)) (a : Option Addr) (w : World) (hq : Q.length = q) (h : q < 1 ∨ 8 < q) : Calls Tryd.prog 13 #[.int .i64 (n : Int), .slice a q c] w (RNew9 n Q (.slice a q c) w) := by
  have hz := rpoolZero
  have E : Hid (¬ OkQ n Q) := Lib.hid (fun e => by have := e.1; omega)
  clear hq
  rcases (show q < 1 ∨ (¬ q < 1 ∧ 8 < q) by omega) with h1 | ⟨h1, h2⟩
  · have d1 : decide (q < 1) = true := decide_eq_true h1
    go_enter Tryd.func13, Tryd.ntmps13
    go_wp2
    refine bodyPost_ret (v := .tuple #[.agg z3, .int .i64 2]) (results_rpool Tryd.results13 _ _ w.heap.size z3 _ _ rfl rfl (heap_alloc_new w _) rfl) rfl ?_
    exact Or.inl ⟨E.out, rfl, (Below.refl _ _).alloc (Nat.le_refl _) _⟩
  · have d1 : decide (q < 1) = false := decide_eq_false h1
    have d2 : decide (8 < q) = true := decide_eq_true h2
    go_enter Tryd.func13, Tryd.ntmps13
    go_wp2
    refine bodyPost_ret (v := .tuple #[.agg z3, .int .i64 2]) (results_rpool Tryd.results13 _ _ w.heap.size z3 _ _ rfl rfl (heap_alloc_new w _) rfl) rfl ?_
    exact Or.inl ⟨E.out, rfl, (Below.refl _ _).alloc (Nat.le_refl _) _⟩
end Go.Proofs.YtiohnhgoddfebaaDoor
