/- Words that are kept, compared; the walk of RingNone. Condition: the slice lies in memory. -/
import Derived.Test.YtolefcbhiajbbaaG9
import Derived.Test.YtolefcbhiajbbaaOR
import Derived.ChangeKeysEq
namespace Go.Proofs.Ytolefcbhiajbbaa
open Go.RowKit
set_option maxRecDepth 100000

theorem eqItems_wordsG (cs : Array Value) (w : World) : ∀ is : List Nat, (∀ j ∈ is, ∃ x, cs[j]? = some (.int .u32 x)) → (Op.eqItems 9998 34 1 cs cs is).run Try.prog w = .ok true w
  | [], _ => by simp [Op.eqItems]
  | j :: is, h => by
    obtain ⟨x, hx⟩ := h j (by simp)
    have ih := eqItems_wordsG cs w is (fun i hi => h i (by simp [hi]))
    simp [Op.eqItems, part, go_sem, hx, ih]
theorem equalIn_arrG (cs : Array Value) (h : ∀ j, j < 72 → ∃ x, cs[j]? = some (.int .u32 x)) (w : World) : (Op.equalIn 9999 35 (.agg cs) (.agg cs)).run Try.prog w = .ok true w := by
  obtain ⟨i, hi, h1, h2, h3⟩ := info_parts wordInfoG
  have hc : Try.prog.cellsOf 34 = 1 := by kernel_rfl
  rw [run_equalIn_array w 9998 _ _ Try.underlying35 hi, hc]
  exact eqItems_wordsG cs w _ fun j hj => h j (List.mem_range.1 hj)
theorem equalIn_kep (K : List Int) (b : Bool) (hK : K.length = 72) (w : World) : (Op.equalIn 10000 37 (.agg (kepV K b)) (.agg (kepV K b))).run Try.prog w = .ok true w := by
  have h := equalIn_arrG ((kepV K b).extract 0 72) (fun j hj => ⟨K.getD j 0, by
    rw [Array.getElem?_extract]
    have := kepV_get K b j (by omega)
    have sz : (kepV K b).size = 73 := by simp [kepV, hK]
    rw [if_pos (by omega), Nat.zero_add]; exact this⟩)
  have hb := kepV_bad K b
  rw [hK] at hb
  rw [run_equalIn_struct w 9999 37 _ _ (by kernel_rfl) (by kernel_rfl)]
  simp [Program.fieldsOf, Try.underlying37, Op.eqFields, part, h, hb, go_sem]
theorem kepTy : RowTy 37 73 := ⟨⟨_, Try.underlying37, rfl⟩, by kernel_rfl⟩
theorem kepV_size (K : List Int) (b : Bool) (hK : K.length = 72) : (kepV K b).size = 73 := by simp [kepV, hK]
theorem kepV_one (K : List Int) (b : Bool) : (kepV K b).all (·.oneCell') = true := by
  simp [kepV, Value.oneCell']
theorem kepBuilt : Try.prog.built 37 [] = some (kepV zero72 false) := by kernel_rfl
section
variable {ops : Array Oper} {rest : List Oper} {op : Oper} {a : Act} {w : World} {Q : Exit → Act → World → Prop}
theorem noGuardK (K : List Int) (b : Bool) (op : BinOp) (x y : Operand) (w : World) : (eqGuard op 37 x y (.agg (kepV K b)) (.agg (kepV K b))).run Try.prog w = .ok () w := run_eqGuard_agg w op _ x y _ _ (by kernel_rfl)
theorem wpK_eql (hw : Region.wanted op (yielded ops a.tmps) = true) (x y : Operand) (t : TypeId) (ho : op.op = .binOp .eql 37 x y t) (K : List Int) (b : Bool) (hK : K.length = 72) (hx : a.eval x = .agg (kepV K b)) (hy : a.eval y = .agg (kepV K b))
    (h : wpList Try.prog ops Q rest (a.put op.dst (.bool true)) w) : wpList Try.prog ops Q (op :: rest) a w :=
  wantedJ hw fun _ hK' => by
    unfold Oper.wp execOp
    simp only [ho, hx, hy, Sem.run_bind, noGuardK, run_eql_struct, equalIn_kep K b hK, Result.andThen_ok]
    exact hK' _ _ h
theorem wpK_neq (hw : Region.wanted op (yielded ops a.tmps) = true) (x y : Operand) (t : TypeId) (ho : op.op = .binOp .neq 37 x y t) (K : List Int) (b : Bool) (hK : K.length = 72) (hx : a.eval x = .agg (kepV K b)) (hy : a.eval y = .agg (kepV K b))
    (h : wpList Try.prog ops Q rest (a.put op.dst (.bool false)) w) : wpList Try.prog ops Q (op :: rest) a w :=
  wantedJ hw fun _ hK' => by
    unfold Oper.wp execOp
    simp only [ho, hx, hy, Sem.run_bind, noGuardK, run_neq_struct, equalIn_kep K b hK, Result.andThen_ok]
    exact hK' _ _ h
theorem wpK_build (hw : Region.wanted op (yielded ops a.tmps) = true) (ho : op.op = .build 37 #[])
    (h : wpList Try.prog ops Q rest (a.put op.dst (.agg (kepV zero72 false))) w) : wpList Try.prog ops Q (op :: rest) a w :=
  wantedJ hw fun _ hK => by
    have e : ∀ g : Nat × Operand → Nat × Value, (Array.map g #[]).toList = [] := fun g => by simp
    refine wp_build 37 #[] ho (by rw [e, kepBuilt]; rfl) ?_
    rw [e, kepBuilt]
    exact hK _ _ h
end
theorem rngInfo : (Try.prog.info? 57).map (fun i => (i.zero, i.size)) = some (some (.agg #[.int .i64 0, .int .i64 0, .int .i64 0, .int .i64 0]), 4) := by kernel_rfl
theorem rngZero (w : World) : (zeroValue 57).run Try.prog w = .ok (.agg #[.int .i64 0, .int .i64 0, .int .i64 0, .int .i64 0]) w := (zero_of_info rngInfo).1 w
theorem ringNone_far (n c : Nat) (a : Option Addr) (W : World) (hn : 100 < n) : Calls Try.prog 5 #[.slice a n c] W fun e w' => e = .returned (.bool true) ∧ Below W.heap.size W w' := by
  go_enter Try.func5, Try.ntmps5
  go_wp2_with (go_at_call 8; refine (awake19 _).mono ?_; rintro e w2 ⟨rfl, hb⟩; have B := Lib.hid hb; clear hb)
  go_ret
  exact ⟨rfl, B.out⟩
def NoneRelG (W w1 : World) (s i : Value) (wr : World) : Prop := (s = .pointer none ∧ (i = .int .i64 0 ∨ i = .int .i64 1) ∨ (s = .pointer (some ⟨W.heap.size + 1, 0, none⟩) ∧ i = .int .i64 2)) ∧ Below w1.heap.size w1 wr
set_option maxHeartbeats 4000000 in
theorem ringNone_near (n c : Nat) (a : Option Addr) (W : World) (hn : n ≤ 100) : Calls Try.prog 5 #[.slice a n c] W fun e w' => e = .returned (.bool true) ∧ Below W.heap.size W w' := by
  have hz := kepZero
  have hz2 := rngZero
  have hmf : ∀ (fn : Fn) (first cap : Array Value) (w : World), (Instr.makeFunc fn first cap).run Try.prog w = .ok (.func fn first cap) w := fun _ _ _ _ => rfl
  have d1 : decide (100 < n) = false := decide_eq_false (by omega)
  obtain ⟨w1, hw1⟩ : ∃ w1, w1 = (W.alloc (.cells (kepV zero72 false) 37)).alloc (.cells #[.int .i64 0, .int .i64 0, .int .i64 0, .int .i64 0] 57) := ⟨_, rfl⟩
  have B1 : Hid (Below W.heap.size W w1) := Lib.hid (by rw [hw1]; exact below_two _ _ _)
  have K1 : Hid (w1.heap[W.heap.size]? = some (.cells (kepV zero72 false) 37 (0, 0))) := Lib.hid (by rw [hw1]; exact heap_alloc2_old _ _ _)
  have o1 : w1.heap[W.heap.size + 1]? = some (.cells #[.int .i64 0, .int .i64 0, .int .i64 0, .int .i64 0] 57 (0, 0)) := by rw [hw1]; exact heap_alloc2_new _ _ _
  have NF : Hid (∀ w, NoR w none ∧ ∀ b : Nat, (none : Option Addr) = some ⟨b, 0, none⟩ → b < w.heap.size) := Lib.hid (fun _ => ⟨Or.inl rfl, fun _ e => by cases e⟩)
  have NO : Hid (∀ w, Below w1.heap.size w1 w → NoR w (some ⟨W.heap.size + 1, 0, none⟩) ∧ ∀ b : Nat, (some ⟨W.heap.size + 1, 0, none⟩ : Option Addr) = some ⟨b, 0, none⟩ → b < w.heap.size) := Lib.hid (fun w hb => by
    have h := below_block hb o1
    exact ⟨Or.inr ⟨_, rfl, by rw [cell_of_row _ _ _ _ _ _ h]; rfl⟩, fun b e => by cases e; exact lt_of_block h⟩)
  have HW := Lib.hid hw1
  clear hw1 o1
  go_enter Try.func5, Try.ntmps5
  go_wp2_with fail
  rw [← HW.out]
  go_loopw [4, 6] (fun s i wr => NoneRelG W w1 s i wr) (fun _ i _ => (2 - (intOf i).toNat))
  case atStart => exact ⟨Or.inl ⟨rfl, Or.inl rfl⟩, Below.refl _ _⟩
  case round =>
    obtain ⟨hs, hb⟩ := hrel
    have B := Lib.hid hb
    clear hb
    rcases hs with ⟨rfl, rfl | rfl⟩ | ⟨rfl, rfl⟩
    · go_wp2_with (first
        | (go_at_call 14; refine (recv_noG none _ _ _ _ (NF.out _).1 (NF.out _).2).mono ?_; rintro e w2 ⟨rfl, hb⟩; have B2 := Lib.hid (B.out.trans (hb.mono B.out.size)); clear hb)
        | (go_at_call 11; refine (send_noG none _ _ _ _ _ _ _ (NF.out _).1 (NF.out _).2).mono ?_; rintro e w3 ⟨rfl, hb⟩; have B3 := Lib.hid (B2.out.trans (hb.mono B2.out.size)); clear hb)
        | (go_at_call 21; refine (next_noG none _ _ _ _ (NF.out _).1 (NF.out _).2).mono ?_; rintro e w4 ⟨rfl, hb⟩; have B4 := Lib.hid (B3.out.trans (hb.mono B3.out.size)); clear hb)
        | (go_at_call 18; refine (len_noG none _ (NF.out _).1).mono ?_; rintro e w5 ⟨rfl, rfl⟩)
        | (go_at_call 19; refine (words_noG none _ (NF.out _).1).mono ?_; rintro e w5 ⟨rfl, rfl⟩))
      go_roundw
      case rel => exact ⟨Or.inl ⟨rfl, Or.inr rfl⟩, B4.out⟩
      case measure => simp [intOf]
    · go_wp2_with (first
        | (go_at_call 14; refine (recv_noG _ _ _ _ _ (NO.out _ B.out).1 (NO.out _ B.out).2).mono ?_; rintro e w2 ⟨rfl, hb⟩; have B2 := Lib.hid (B.out.trans (hb.mono B.out.size)); clear hb)
        | (go_at_call 11; refine (send_noG _ _ _ _ _ _ _ _ (NO.out _ B2.out).1 (NO.out _ B2.out).2).mono ?_; rintro e w3 ⟨rfl, hb⟩; have B3 := Lib.hid (B2.out.trans (hb.mono B2.out.size)); clear hb)
        | (go_at_call 21; refine (next_noG _ _ _ _ _ (NO.out _ B3.out).1 (NO.out _ B3.out).2).mono ?_; rintro e w4 ⟨rfl, hb⟩; have B4 := Lib.hid (B3.out.trans (hb.mono B3.out.size)); clear hb)
        | (go_at_call 18; refine (len_noG _ _ (NO.out _ B4.out).1).mono ?_; rintro e w5 ⟨rfl, rfl⟩)
        | (go_at_call 19; refine (words_noG _ _ (NO.out _ B4.out).1).mono ?_; rintro e w5 ⟨rfl, rfl⟩))
      go_roundw
      case rel => exact ⟨Or.inr ⟨rfl, rfl⟩, B4.out⟩
      case measure => simp [intOf]
    · have B0 := Lib.hid (B1.out.trans (B.out.mono B1.out.size))
      have K0 := Lib.hid (below_block B.out K1.out)
      have NW := Lib.hid (LawG.new B0.out 1 1 (by decide) (by decide))
      go_wp2_with fail
      refine NW.out.mono ?_
      rintro e w2 ⟨b, rfl, h0, -, hb, hr, hB⟩
      have B2 := Lib.hid hB
      have R2 := Lib.hid hr
      have K2 := Lib.hid (below_block hb K0.out)
      clear hb hr hB
      go_wp2_with fail
      refine (recv_nilG R2.out).mono ?_
      rintro e w3 ⟨rfl, hb⟩
      have B3 := Lib.hid (B2.out.trans (hb.mono B2.out.size))
      have R3 := Lib.hid (R2.out.below hb)
      have K3 := Lib.hid (below_block hb K2.out)
      clear hb
      go_wp2_with (first
        | (go_at_call 11; refine (send_nilG (R3.out.below (below_step1 w3 (.cells #[.int .u32 1] 34))) _ _ _).mono ?_; rintro e w4 ⟨rfl, hb⟩; have b4 := (below_step1 w3 (.cells #[.int .u32 1] 34)).trans (hb.mono (by simp)); have B4 := Lib.hid (B3.out.trans (b4.mono B3.out.size)); have R4 := Lib.hid (R3.out.below b4); have K4 := Lib.hid (below_block b4 K3.out); clear hb b4)
        | (go_at_call 21; refine (next_nilG R4.out).mono ?_; rintro e w5 ⟨rfl, hb⟩; have B5 := Lib.hid (B4.out.trans (hb.mono B4.out.size)); have R5 := Lib.hid (R4.out.below hb); have K5 := Lib.hid (below_block hb K4.out); clear hb)
        | (go_at_call 18; refine (len_okG R5.out).mono ?_; rintro e w6 ⟨rfl, rfl⟩)
        | (refine wpR_loadG kepTy (by rfl) (.tmp 3) rfl W.heap.size rfl (kepV zero72 false) K5.out (kepV_size _ _ rfl) ?_)
        | (refine wpK_build (by rfl) rfl ?_)
        | (refine wpK_eql (by rfl) (.tmp 98) (.tmp 99) _ rfl zero72 false rfl rfl rfl ?_)
        | (go_at_call 8; refine (awake19 _).mono ?_; rintro e w7 ⟨rfl, hb⟩; have B7 := Lib.hid (B5.out.trans (hb.mono B5.out.size)); clear hb))
      go_ret
      exact ⟨rfl, B7.out⟩
theorem ringNone_walk (v : Value) (L : List Int) (W : World) (h : ArgMs W v L) : Calls Try.prog 5 #[v] W fun e w' => e = .returned (.bool true) ∧ Below W.heap.size W w' := by
  obtain ⟨a, c, rfl, _⟩ := h
  by_cases hl : L.length ≤ 100
  · exact ringNone_near _ c a W hl
  · exact ringNone_far _ c a W (by omega)
end Go.Proofs.Ytolefcbhiajbbaa
