/- The walk of TrapThree, layer 4. No condition. -/
import Derived.Test.YteohfonmckahgaaT12
import Derived.Great.BuildSlice
namespace Go.Proofs.Yteohfonmckahgaa
open Go.RowKit
set_option maxRecDepth 100000

theorem fill_lits (a0 a1 a2 a3 a4 a5 a6 a7 a8 a9 b0 b1 b2 b3 b4 b5 b6 b7 b8 b9 c0 c1 c2 c3 c4 c5 c6 c7 c8 c9 : Int) :
    Instr.fill (fun i => some (i * 10, 10)) ((Array.range (3 * 10)).map ((Value.agg (wordsV z10)).cells[· % (Value.agg (wordsV z10)).cells.size]!)) [(0, .agg (wordsV [a0, a1, a2, a3, a4, a5, a6, a7, a8, a9])), (1, .agg (wordsV [b0, b1, b2, b3, b4, b5, b6, b7, b8, b9])), (2, .agg (wordsV [c0, c1, c2, c3, c4, c5, c6, c7, c8, c9]))] = some (wordsV ([a0, a1, a2, a3, a4, a5, a6, a7, a8, a9] ++ ([b0, b1, b2, b3, b4, b5, b6, b7, b8, b9] ++ [c0, c1, c2, c3, c4, c5, c6, c7, c8, c9]))) := by kernel_rfl
theorem fill_three (A B C : List Int) (hA : A.length = 10) (hB : B.length = 10) (hC : C.length = 10) :
    Instr.fill (fun i => some (i * 10, 10)) ((Array.range (3 * 10)).map ((Value.agg (wordsV z10)).cells[· % (Value.agg (wordsV z10)).cells.size]!)) [(0, .agg (wordsV A)), (1, .agg (wordsV B)), (2, .agg (wordsV C))] = some (wordsV (A ++ (B ++ C))) := by
  match A, hA, B, hB, C, hC with
  | [a0, a1, a2, a3, a4, a5, a6, a7, a8, a9], _, [b0, b1, b2, b3, b4, b5, b6, b7, b8, b9], _, [c0, c1, c2, c3, c4, c5, c6, c7, c8, c9], _ => exact fill_lits a0 a1 a2 a3 a4 a5 a6 a7 a8 a9 b0 b1 b2 b3 b4 b5 b6 b7 b8 b9 c0 c1 c2 c3 c4 c5 c6 c7 c8 c9
theorem wpList_three {ops : Array Oper} {rest : List Oper} {op : Oper} {a : Act} {w : World} {Q : Exit → Act → World → Prop} (hg : op.guard = none) (x y z : Operand) (ho : op.op = .buildSlice 52 3 #[(0, x), (1, y), (2, z)])
    (A B C : List Int) (hA : A.length = 10) (hB : B.length = 10) (hC : C.length = 10) (hx : a.eval x = .agg (wordsV A)) (hy : a.eval y = .agg (wordsV B)) (hz : a.eval z = .agg (wordsV C))
    (h : wpList Try.prog ops Q rest (a.put op.dst (.slice (some ⟨w.heap.size, 0, none⟩) 3 3)) (w.alloc (.cells (wordsV (A ++ (B ++ C))) 26))) : wpList Try.prog ops Q (op :: rest) a w := by
  have ht := trapInfo
  cases hq : Try.prog.info? 26 with
  | none => rw [hq] at ht; cases ht
  | some i =>
    rw [hq] at ht
    simp only [Option.map_some, Option.some.injEq, Prod.mk.injEq] at ht
    have e : (Array.map (fun g : Nat × Operand => (g.1, a.eval g.2)) #[(0, x), (1, y), (2, z)]).toList = [(0, .agg (wordsV A)), (1, .agg (wordsV B)), (2, .agg (wordsV C))] := by simp [hx, hy, hz]
    refine wpList_buildSlice hg 52 26 3 _ ho _ i (.agg (wordsV z10)) Try.underlying52 hq ht.1 (by rw [ht.2]; decide) (by rw [ht.2]; decide) ?_ h
    rw [e, ht.2]
    exact fill_three A B C hA hB hC

theorem wpList_load_trapmid {ops : Array Oper} {rest : List Oper} {op : Oper} {a : Act} {w : World} {Q : Exit → Act → World → Prop} (hgd : op.guard = none) (x : Operand) (ho : op.op = .load 26 x) (b o : Nat) (T : List Int) (hT : T.length = 10) (hx : a.eval x = .pointer (some ⟨b, o, none⟩)) (hc : ∀ j, j < 10 → w.cell? ⟨b, o + j, none⟩ = some (.int .u32 (T.getD j 0)))
    (h : wpList Try.prog ops Q rest (a.put op.dst (.agg (wordsV T))) w) : wpList Try.prog ops Q (op :: rest) a w := by
  obtain ⟨d, h1, h2⟩ := trapUnder
  refine wpList_load_mid hgd 26 x ho b o hx (T.map (Value.int .u32)) d (fun j v hv => ?_) h1 h2 (by rw [trapSize, List.length_map, hT]) h
  have hj : j < 10 := by have := (List.getElem?_eq_some_iff.1 hv).1; rw [List.length_map, hT] at this; exact this
  rw [hc j hj, ← hv]
  simp [List.getD_eq_getElem?_getD, hT, hj]

/-- The slot that comes j-th. -/
def slj (odd : Bool) (j : Nat) : Nat := if odd then 2 - j else j
theorem slj_lt (odd : Bool) (j : Nat) (h : j < 3) : slj odd j < 3 := by unfold slj; split <;> omega
theorem slj_ne (odd : Bool) (j k : Nat) (h : j < k) (hk : k < 3) : slj odd j ≠ slj odd k := by unfold slj; split <;> omega
theorem slj_onto (odd : Bool) (s : Nat) (h : s < 3) : ∃ j, j < 3 ∧ slj odd j = s := by
  unfold slj
  cases odd
  · exact ⟨s, h, rfl⟩
  · exact ⟨2 - s, by omega, by simp; omega⟩
def Done3 (odd : Bool) (f : Int) (X L : List Int) (k : Nat) : Prop := ∀ j, j < k → tenAt L (idx f (10 * slj odd j : Nat)) = tenAt X (slj odd j * 10)
theorem Done3.next {odd : Bool} {f : Int} {n : Nat} {X L : List Int} {k : Nat} (h : Done3 odd f X L k) (hk : k < 3) (hf : okFQ n f 0) (hl : L.length = n * 32) : Done3 odd f X (putK L (idx f (10 * slj odd k : Nat)) (tenAt X (slj odd k * 10)) 10) (k + 1) := by
  have h3 := slj_lt odd k hk
  unfold okFQ at hf
  have hb : idx f (10 * slj odd k : Nat) + 10 ≤ L.length := by unfold idx; omega
  intro j hj
  by_cases e : j = k
  · subst e
    exact tenAt_put _ _ _ (tenAt_len _ _) hb
  · have hjk : j < k := by omega
    have hne := slj_ne odd j k hjk hk
    have hj3 := slj_lt odd j (by omega)
    rw [tenAt_other _ _ _ _ hb (by unfold idx; omega)]
    exact h j hjk
theorem Done3.all {odd : Bool} {f : Int} {X L : List Int} (h : Done3 odd f X L 3) (s : Nat) (hs : s < 3) : tenAt L (idx f (10 * s : Nat)) = tenAt X (s * 10) := by
  obtain ⟨j, hj, rfl⟩ := slj_onto odd s hs
  exact h j hj

def ThreeRel (W : World) (mp fb n lb : Nat) (odd : Bool) (f : Int) (X : List Int) (i : Value) (wr : World) : Prop :=
  ∃ (k : Nat) (L : List Int), i = .int .i64 k ∧ k ≤ 3 ∧ OwnMem W wr mp fb n L ∧ TrapBox wr lb fb X ∧ Done3 odd f X L k
def ThreeRel2 (W : World) (mp fb n lb : Nat) (L X : List Int) (i : Value) (wr : World) : Prop :=
  ∃ k : Nat, i = .int .i64 k ∧ k ≤ 3 ∧ OwnMem W wr mp fb n L ∧ TrapBox wr lb fb X
theorem boxedA (w : World) (o p q : Obj) : (((w.alloc o).alloc p).alloc q).heap[w.heap.size]? = some o := boxed3 w o p q
theorem boxedB (w : World) (o p q : Obj) : (((w.alloc o).alloc p).alloc q).heap[w.heap.size + 1]? = some p := by
  have := heap_alloc2_old (w.alloc o) p q
  simpa using this
theorem boxedC (w : World) (o p q : Obj) : (((w.alloc o).alloc p).alloc q).heap[w.heap.size + 1 + 1]? = some q := by
  have := heap_alloc2_new (w.alloc o) p q
  simpa using this

set_option maxHeartbeats 4000000 in
theorem three_in (n : Nat) (f : Int) (A B C : List Int) (r : Int) (odd : Bool) (W : World) (hA : A.length = 10) (hB : B.length = 10) (hC : C.length = 10) (h1 : 1 ≤ n) (h2 : n ≤ 10) (h3 : 0 ≤ f) (h4 : f < n) (hr1 : (r.tmod 2 != 0) = odd) (hr2 : (r.tmod 2 == 0) = !odd) :
    Calls Try.prog 6 #[.int .i64 n, .int .i64 f, .agg (wordsV A), .agg (wordsV B), .agg (wordsV C), .int .i64 r] W fun e w' => e = .returned (.bool true) ∧ Below W.heap.size W w' := by
  have hz := trapZ
  have HA := Lib.hid hA
  have HB := Lib.hid hB
  have HC := Lib.hid hC
  have HF : Hid (okFQ n f 0) := Lib.hid (by unfold okFQ; omega)
  have d1 : decide ((n : Int) < 1) = false := decide_eq_false (by omega)
  have d2 : decide ((10 : Int) < n) = false := decide_eq_false (by omega)
  have d3 : decide (f < 0) = false := decide_eq_false (by omega)
  have d4 : decide ((n : Int) ≤ f) = false := decide_eq_false (by omega)
  have HX : Hid ((A ++ (B ++ C)).length = 30) := Lib.hid (by simp [hA, hB, hC])
  have A0 : Hid (Below W.heap.size W (((W.alloc (.cells (wordsV A) 26)).alloc (.cells (wordsV B) 26)).alloc (.cells (wordsV C) 26))) := Lib.hid ((below_two W _ _).alloc (by simp; omega) _)
  have XA := Lib.hid (boxedA W (.cells (wordsV A) 26) (.cells (wordsV B) 26) (.cells (wordsV C) 26))
  have XB := Lib.hid (boxedB W (.cells (wordsV A) 26) (.cells (wordsV B) 26) (.cells (wordsV C) 26))
  have XC := Lib.hid (boxedC W (.cells (wordsV A) 26) (.cells (wordsV B) 26) (.cells (wordsV C) 26))
  clear hA hB hC
  go_enter Try.func6, Try.ntmps6
  go_wp2_with fail
  refine (new_ok n _ h1 (by omega)).mono ?_
  rintro e w1 hp
  obtain ⟨mp, fb, rfl, ho⟩ := OwnMem.new hp
  have O1 := Lib.hid ho
  have YA := Lib.hid (below_block ho.below XA.out)
  have YB := Lib.hid (below_block ho.below XB.out)
  have YC := Lib.hid (below_block ho.below XC.out)
  clear hp ho XA XB XC
  go_wp2_with (first | (refine wpList_load_trap rfl (.tmp 8) rfl W.heap.size A 26 rfl YA.out HA.out ?_) | (refine wpList_load_trap rfl (.tmp 9) rfl (W.heap.size + 1) B 26 rfl YB.out HB.out ?_) | (refine wpList_load_trap rfl (.tmp 10) rfl (W.heap.size + 1 + 1) C 26 rfl YC.out HC.out ?_) | (refine wpList_three rfl (.tmp 48) (.tmp 49) (.tmp 50) rfl A B C HA.out HB.out HC.out rfl rfl rfl ?_))
  have P2 : Hid (OwnMem W (w1.alloc (.cells (wordsV (A ++ (B ++ C))) 26)) mp fb n (List.replicate (n * 32) 0)) := Lib.hid (by
    have o := O1.out.step ((Below.refl w1.heap.size w1).alloc (Nat.le_refl _) (.cells (wordsV (A ++ (B ++ C))) 26))
    exact ⟨o.st, A0.out.trans (o.below.mono A0.out.size), Nat.le_trans A0.out.size o.lm, Nat.le_trans A0.out.size o.lf⟩)
  have T2 : Hid (TrapBox (w1.alloc (.cells (wordsV (A ++ (B ++ C))) 26)) w1.heap.size fb (A ++ (B ++ C))) := Lib.hid ⟨heap_alloc_new w1 _, fun e => by have := lt_of_block O1.out.st.row; omega⟩
  generalize w1.alloc (.cells (wordsV (A ++ (B ++ C))) 26) = w2 at *
  generalize w1.heap.size = lb at *
  generalize A ++ (B ++ C) = X at *
  clear O1 YA YB YC A0
  go_loopw [16] (fun i wr => ThreeRel W mp fb n lb odd f X i wr) (fun i _ => (3 - (intOf i).toNat))
  case atStart => exact ⟨0, _, rfl, by omega, P2.out, T2.out, fun j hj => absurd hj (by omega)⟩
  case round =>
    obtain ⟨k, L, rfl, hk, ho, ht, hd⟩ := hrel
    have O3 := Lib.hid ho
    have T3 := Lib.hid ht
    have D3 := Lib.hid hd
    clear ho ht hd
    by_cases hlt : k < 3
    · have hc : ∀ s, s < 3 → ∀ j, j < 10 → wr.cell? ⟨lb, s * 10 + j, none⟩ = some (.int .u32 ((tenAt X (s * 10)).getD j 0)) := fun s hs j hj => by
        rw [cell_of_row wr _ _ _ _ _ T3.out.row, wordsV_get _ _ (by rw [HX.out]; omega), tenAt_get _ _ _ hj]
      have HCC := Lib.hid hc
      clear hc
      cases odd
      · go_wp2_with (refine wpList_load_trapmid rfl (.tmp 72) rfl lb (k * 10) (tenAt X (k * 10)) (tenAt_len _ _) rfl (HCC.out k hlt) ?_)
        refine (save_ok mp fb n k (10 * k) L f (tenAt X (k * 10)) wr (tenAt_len _ _) O3.out.st HF.out (by omega) rfl).mono ?_
        rintro e w3 ⟨rfl, hp⟩
        have O4 := Lib.hid (O3.out.put hp)
        have T4 := Lib.hid (T3.out.put hp)
        have D4 := Lib.hid (D3.out.next hlt HF.out O3.out.st.len)
        clear hp
        go_wp2
        go_roundw
        case rel => exact ⟨k + 1, _, by go_num, by omega, O4.out, T4.out, D4.out⟩
        case measure => simp [intOf]; omega
      · obtain ⟨j, hj⟩ : ∃ j : Nat, j = 2 - k := ⟨_, rfl⟩
        have hjk : (2 : Int) - k = j := by omega
        have HJ : Hid (slj true k = j) := Lib.hid (by unfold slj; simp; omega)
        have hj3 : j < 3 := by omega
        clear hj
        go_wp2_with (refine wpList_load_trapmid rfl (.tmp 72) rfl lb (j * 10) (tenAt X (j * 10)) (tenAt_len _ _) rfl (HCC.out j hj3) ?_)
        refine (save_ok mp fb n j (10 * j) L f (tenAt X (j * 10)) wr (tenAt_len _ _) O3.out.st HF.out hj3 rfl).mono ?_
        rintro e w3 ⟨rfl, hp⟩
        have O4 := Lib.hid (O3.out.put hp)
        have T4 := Lib.hid (T3.out.put hp)
        have hd := D3.out.next hlt HF.out O3.out.st.len
        rw [HJ.out] at hd
        have D4 := Lib.hid hd
        clear hp hd
        go_wp2
        go_roundw
        case rel => exact ⟨k + 1, _, by go_num, by omega, O4.out, T4.out, D4.out⟩
        case measure => simp [intOf]; omega
    · obtain rfl : k = 3 := by omega
      have D4 : Hid (∀ s, s < 3 → tenAt L (idx f (10 * s : Nat)) = tenAt X (s * 10)) := Lib.hid fun s hs => D3.out.all s hs
      clear D3 hlt
      rw [show ((3 : Nat) : Int) = 3 from rfl]
      go_wp2_with fail
      go_loopw [18] (fun i wr => ThreeRel2 W mp fb n lb L X i wr) (fun i _ => (3 - (intOf i).toNat))
      case atStart => exact ⟨0, rfl, by omega, O3.out, T3.out⟩
      case round =>
        obtain ⟨k, rfl, hk, ho, ht⟩ := hrel
        have O5 := Lib.hid ho
        have T5 := Lib.hid ht
        clear ho ht O3 T3
        by_cases hlt : k < 3
        · go_wp2_with fail
          have C := load_ok mp fb n k (10 * k) L f wr O5.out.st HF.out hlt rfl
          rw [D4.out k hlt] at C
          refine C.mono ?_
          clear C
          rintro e w3 ⟨rfl, hb⟩
          have O6 := Lib.hid (O5.out.step hb)
          have T6 := Lib.hid (T5.out.step hb)
          clear hb O5 T5
          go_wp2_with (refine wpList_store_trap rfl (.tmp 19) (.tmp 87) rfl w3.heap.size z10 (tenAt X (k * 10)) 26 rfl rfl (heap_alloc_new w3 _) rfl (tenAt_len _ _) ?_)
          have N := laid_new w3 (tenAt X (k * 10))
          generalize (w3.alloc (.cells (wordsV z10) 26)).setRow w3.heap.size (wordsV (tenAt X (k * 10))) = w4 at *
          obtain ⟨hb, hr⟩ := N
          have O7 := Lib.hid (O6.out.step hb)
          have T7 := Lib.hid (T6.out.step hb)
          generalize w3.heap.size = nb at *
          have hc : ∀ j, j < 10 → w4.cell? ⟨lb, k * 10 + j, none⟩ = some (.int .u32 ((tenAt X (k * 10)).getD j 0)) := fun j hj => by
            rw [cell_of_row w4 _ _ _ _ _ T7.out.row, wordsV_get _ _ (by rw [HX.out]; omega), tenAt_get _ _ _ hj]
          have hlen := tenAt_len X (k * 10)
          clear hb O6 T6
          generalize tenAt X (k * 10) = Y at hr hc hlen ⊢
          have hreg := equalIn_regs
          match Y, hlen, hr, hc with
          | [t0, t1, t2, t3, t4, t5, t6, t7, t8, t9], _, hr, hc =>
            obtain ⟨a0, a1, a2, a3, a4, a5, a6, a7, a8, a9⟩ := ten_cells hr
            have b0 : w4.cell? ⟨lb, k * 10, none⟩ = some (.int .u32 t0) := hc 0 (by omega)
            have b1 : w4.cell? ⟨lb, k * 10 + 1, none⟩ = some (.int .u32 t1) := hc 1 (by omega)
            have b2 : w4.cell? ⟨lb, k * 10 + 2, none⟩ = some (.int .u32 t2) := hc 2 (by omega)
            have b3 : w4.cell? ⟨lb, k * 10 + 3, none⟩ = some (.int .u32 t3) := hc 3 (by omega)
            have b4 : w4.cell? ⟨lb, k * 10 + 4, none⟩ = some (.int .u32 t4) := hc 4 (by omega)
            have b5 : w4.cell? ⟨lb, k * 10 + 5, none⟩ = some (.int .u32 t5) := hc 5 (by omega)
            have b6 : w4.cell? ⟨lb, k * 10 + 6, none⟩ = some (.int .u32 t6) := hc 6 (by omega)
            have b7 : w4.cell? ⟨lb, k * 10 + 7, none⟩ = some (.int .u32 t7) := hc 7 (by omega)
            have b8 : w4.cell? ⟨lb, k * 10 + 8, none⟩ = some (.int .u32 t8) := hc 8 (by omega)
            have b9 : w4.cell? ⟨lb, k * 10 + 9, none⟩ = some (.int .u32 t9) := hc 9 (by omega)
            clear hr hc
            go_region_held3 (fun w' => (w'.cell? ⟨nb, 0, none⟩ = some (.int .u32 t0) ∧ w'.cell? ⟨nb, 1, none⟩ = some (.int .u32 t1) ∧ w'.cell? ⟨nb, 2, none⟩ = some (.int .u32 t2) ∧ w'.cell? ⟨nb, 3, none⟩ = some (.int .u32 t3) ∧ w'.cell? ⟨nb, 4, none⟩ = some (.int .u32 t4) ∧ w'.cell? ⟨nb, 5, none⟩ = some (.int .u32 t5) ∧ w'.cell? ⟨nb, 6, none⟩ = some (.int .u32 t6) ∧ w'.cell? ⟨nb, 7, none⟩ = some (.int .u32 t7) ∧ w'.cell? ⟨nb, 8, none⟩ = some (.int .u32 t8) ∧ w'.cell? ⟨nb, 9, none⟩ = some (.int .u32 t9)) ∧ (w'.cell? ⟨lb, k * 10, none⟩ = some (.int .u32 t0) ∧ w'.cell? ⟨lb, k * 10 + 1, none⟩ = some (.int .u32 t1) ∧ w'.cell? ⟨lb, k * 10 + 2, none⟩ = some (.int .u32 t2) ∧ w'.cell? ⟨lb, k * 10 + 3, none⟩ = some (.int .u32 t3) ∧ w'.cell? ⟨lb, k * 10 + 4, none⟩ = some (.int .u32 t4) ∧ w'.cell? ⟨lb, k * 10 + 5, none⟩ = some (.int .u32 t5) ∧ w'.cell? ⟨lb, k * 10 + 6, none⟩ = some (.int .u32 t6) ∧ w'.cell? ⟨lb, k * 10 + 7, none⟩ = some (.int .u32 t7) ∧ w'.cell? ⟨lb, k * 10 + 8, none⟩ = some (.int .u32 t8) ∧ w'.cell? ⟨lb, k * 10 + 9, none⟩ = some (.int .u32 t9))) (exact ⟨⟨a0, a1, a2, a3, a4, a5, a6, a7, a8, a9⟩, b0, b1, b2, b3, b4, b5, b6, b7, b8, b9⟩) (fail)
            have hdr : Below w4.heap.size w4 w4.drew := (Below.refl _ _).drew
            have O8 := Lib.hid (O7.out.step hdr)
            have T8 := Lib.hid (T7.out.step hdr)
            clear hdr hreg a0 a1 a2 a3 a4 a5 a6 a7 a8 a9 b0 b1 b2 b3 b4 b5 b6 b7 b8 b9
            go_wp2
            go_roundw
            case rel => exact ⟨k + 1, by go_num, by omega, O8.out, T8.out⟩
            case measure => simp [intOf]; omega
        · obtain rfl : k = 3 := by omega
          go_wp2_with fail
          refine (awake4_any wr).mono ?_
          rintro e w3 ⟨rfl, hb⟩
          have O6 := Lib.hid (O5.out.step hb)
          clear hb
          go_wp2
          go_ret
          exact ⟨rfl, O6.out.below⟩

set_option maxHeartbeats 2000000 in
theorem three_out (n f : Int) (A B C : List Int) (r : Int) (W : World) (h : ¬ (1 ≤ n ∧ n ≤ 10 ∧ 0 ≤ f ∧ f < n)) :
    Calls Try.prog 6 #[.int .i64 n, .int .i64 f, .agg (wordsV A), .agg (wordsV B), .agg (wordsV C), .int .i64 r] W fun e w' => e = .returned (.bool true) ∧ Below W.heap.size W w' := by
  have A0 : Hid (Below W.heap.size W (((W.alloc (.cells (wordsV A) 26)).alloc (.cells (wordsV B) 26)).alloc (.cells (wordsV C) 26))) := Lib.hid ((below_two W _ _).alloc (by simp; omega) _)
  have hc : (decide (n < 1) = true) ∨ (decide (n < 1) = false ∧ decide (10 < n) = true) ∨ (decide (n < 1) = false ∧ decide (10 < n) = false ∧ decide (f < 0) = true) ∨ (decide (n < 1) = false ∧ decide (10 < n) = false ∧ decide (f < 0) = false ∧ decide (n ≤ f) = true) := by
    simp only [decide_eq_true_eq, decide_eq_false_iff_not]; omega
  clear h
  rcases hc with d1 | ⟨d1, d2⟩ | ⟨d1, d2, d3⟩ | ⟨d1, d2, d3, d4⟩
  all_goals
    go_enter Try.func6, Try.ntmps6
    go_wp2_with fail
    refine (awake4_any _).mono ?_
    rintro e w1 ⟨rfl, hb⟩
    have B1 := Lib.hid (A0.out.trans (hb.mono A0.out.size))
    clear hb
    go_wp2
    go_ret
    exact ⟨rfl, B1.out⟩
theorem trapThree_walk (n f : Int) (A B C : List Int) (r : Int) (W : World) (_ : -9223372036854775808 ≤ n ∧ n ≤ 9223372036854775807) (_ : -9223372036854775808 ≤ f ∧ f ≤ 9223372036854775807) (hA : A.length = 10) (hB : B.length = 10) (hC : C.length = 10) (_ : -9223372036854775808 ≤ r ∧ r ≤ 9223372036854775807) :
    Calls Try.prog 6 #[.int .i64 n, .int .i64 f, .agg (wordsV A), .agg (wordsV B), .agg (wordsV C), .int .i64 r] W fun e w' => e = .returned (.bool true) ∧ Below W.heap.size W w' := by
  by_cases h : 1 ≤ n ∧ n ≤ 10 ∧ 0 ≤ f ∧ f < n
  · obtain ⟨k, rfl⟩ := Int.eq_ofNat_of_zero_le (show 0 ≤ n by omega)
    exact three_in k f A B C r (r.tmod 2 != 0) W hA hB hC (by omega) (by omega) h.2.2.1 h.2.2.2 rfl (by simp [bne])
  · exact three_out n f A B C r W h
end Go.Proofs.Yteohfonmckahgaa
