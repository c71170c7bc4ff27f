/- The walk of PallocWhole. Conditions: the library's table reads as its initialiser lays it; the slice lies as it says. Written by gen/gen_a17.py. -/
import Derived.Test.YtiohnhgoddfebaaDoorA14
namespace Go.Proofs.YtiohnhgoddfebaaDoor
open Go.RowKit
set_option maxRecDepth 100000

/-- How many of the first frames are held. -/
def cntH (R : Nat → Nat) : Nat → Nat
  | 0 => 0
  | k + 1 => cntH R k + if R k = 0 then 0 else 1
theorem span_snoc (k : Nat) : span 0 (k + 1) = span 0 k ++ [k] := by simp [span, List.range'_concat]
theorem cntH_free (R : Nat → Nat) : ∀ k, cntH R k + (freeL (0, k) R).length = k
  | 0 => rfl
  | k + 1 => by
    have ih := cntH_free R k
    have e : freeL (0, k + 1) R = freeL (0, k) R ++ if R k = 0 then [k] else [] := by
      unfold freeL
      rw [show ((0, k + 1) : Nat × Nat).2 = k + 1 from rfl, show ((0, k + 1) : Nat × Nat).1 = 0 from rfl, span_snoc, List.filter_append]
      by_cases h : R k = 0
      · rw [if_pos h]; simp [h]
      · rw [if_neg h]; simp [h]
    rw [e, List.length_append, cntH]
    by_cases h : R k = 0
    · rw [if_pos h, if_pos h]; simp only [List.length_singleton]; omega
    · rw [if_neg h, if_neg h]; simp only [List.length_nil]; omega
theorem cntH_le (R : Nat → Nat) (k : Nat) : cntH R k ≤ k := by have := cntH_free R k; omega
theorem pn_left (n : Nat) (R : Nat → Nat) : cntH R n + leftA (Pn n) R 0 = n := by
  rw [leftA, show partB (Pn n) 0 = true from rfl, if_pos rfl, show (Pn n).getD (0 : Int).toNat (0, 0) = (0, n) from rfl]
  exact cntH_free R n
theorem rowOf_zeroed {L : List Int} {n f : Nat} (hl : L.length = n * 32) (hf : f < n) : rowOf (putRow L f zeros) f = zeros := by
  have h1 : (putRow L f zeros).length = n * 32 := putRow_length hl hf rfl
  refine ext_getD (by rw [rowOf_length h1 hf]; rfl) fun j hj => ?_
  rw [rowOf_length h1 hf] at hj
  rw [getD_rowOf _ _ _ hj, getD_putRow hl hf rfl hj, if_pos rfl]
def wasV (R : Nat → Nat) (k : Nat) : List Value := (List.range k).map fun i => .int .i64 (R i : Int)
theorem wasV_snoc (R : Nat → Nat) (k : Nat) : wasV R (k + 1) = wasV R k ++ [.int .i64 (R k : Int)] := by simp [wasV, List.range_succ]
theorem wasV_get (R : Nat → Nat) (k i : Nat) (h : i < k) : (wasV R k)[i]? = some (.int .i64 (R i : Int)) := by simp [wasV, h]
/-- Whatever is written to the memory, the pool stays. -/
theorem OwnPool.write_ {W w : World} {X : PIx} {L : List Int} {R : Nat → Nat} (h : OwnPool W w X L R) (f q v : Int) : Calls Tryd.prog 24 #[.pointer (some ⟨X.mp, 0, none⟩), .int .i64 f, .int .i64 q, .int .u32 v] w fun e w' => ∃ k L', e = .returned (.int .i64 k) ∧ OwnPool W w' X L' R := by
  by_cases hok : okFQ X.n f q
  · exact (write_i X.mp X.fb X.n L f q v w h.st.mem hok).mono fun _ _ ⟨he, hp⟩ => ⟨_, _, he, h.move ⟨(h.st.toG.mem_ hp).toAt h.st.fit (fun _ _ => rfl), Only.grown hp.grown (Or.inl rfl)⟩⟩
  · exact (write_bad X.mp X.fb X.n L f q v w h.st.mem hok).mono fun _ _ ⟨he, hb⟩ => ⟨_, _, he, h.step hb⟩
/-- The pool and the call's box. -/
structure WholeSt (W w : World) (X : PIx) (L : List Int) (R : Nat → Nat) (bx : Nat) (d x : Int) : Prop where
  pool : OwnPool W w X L R
  box : w.heap[bx]? = some (.cells #[.int .i64 d, .int .i64 x] 43 (0, 0))
theorem whole_far (n : Int) (q c : Nat) (s : Option Addr) (W : World) (h : n < 1 ∨ (1 ≤ n ∧ 30 < n) ∨ (1 ≤ n ∧ n ≤ 30 ∧ 200 < q)) (hT : LaidQ W) : Calls Tryd.prog 6 #[.int .i64 n, .slice s q c] W fun e w' => e = .returned (.bool true) ∧ Below W.heap.size W w' := by
  have HT := Lib.hid hT
  clear hT
  rcases h with h | ⟨h1, h⟩ | ⟨h1, h2, h⟩
  · have d0 : decide (n < 1) = true := decide_eq_true (by omega)
    go_enter Tryd.func6, Tryd.ntmps6
    go_wp2_with (go_at_call 10; refine (awake9 _ HT.out).mono ?_; rintro e w2 ⟨rfl, hb⟩; have B := Lib.hid hb; clear hb)
    go_ret
    exact ⟨rfl, B.out⟩
  · have d0 : decide (n < 1) = false := decide_eq_false (by omega)
    have d1 : decide (30 < n) = true := decide_eq_true (by omega)
    go_enter Tryd.func6, Tryd.ntmps6
    go_wp2_with (go_at_call 10; refine (awake9 _ HT.out).mono ?_; rintro e w2 ⟨rfl, hb⟩; have B := Lib.hid hb; clear hb)
    go_ret
    exact ⟨rfl, B.out⟩
  · have d0 : decide (n < 1) = false := decide_eq_false (by omega)
    have d1 : decide (30 < n) = false := decide_eq_false (by omega)
    have d2 : decide (200 < q) = true := decide_eq_true (by omega)
    go_enter Tryd.func6, Tryd.ntmps6
    go_wp2_with (go_at_call 10; refine (awake9 _ HT.out).mono ?_; rintro e w2 ⟨rfl, hb⟩; have B := Lib.hid hb; clear hb)
    go_ret
    exact ⟨rfl, B.out⟩
def WholeRel (W : World) (X : PIx) (q : Nat) (iv : Value) (wr : World) : Prop := ∃ (k : Nat) (L : List Int) (R : Nat → Nat), iv = .int .i64 (k : Int) ∧ k ≤ q ∧ OwnPool W wr X L R
def CountRel (W : World) (X : PIx) (n : Nat) (L : List Int) (R : Nat → Nat) (hv iv : Value) (wr : World) : Prop := ∃ j : Nat, hv = .int .i64 (cntH R j : Int) ∧ iv = .int .i64 (j : Int) ∧ j ≤ n ∧ OwnPool W wr X L R
def WasRel (W : World) (X : PIx) (n : Nat) (L : List Int) (R : Nat → Nat) (lv iv : Value) (wr : World) : Prop := ∃ j : Nat, iv = .int .i64 (j : Int) ∧ j ≤ n ∧ OwnPool W wr X L R ∧ wr.ownsRow W.heap.size 3 1 lv j (wasV R j)
def ZeroRel (W : World) (X : PIx) (L : List Int) (R : Nat → Nat) (zb : Nat) (t : TypeId) (iv : Value) (wr : World) : Prop := ∃ j : Nat, iv = .int .i64 (j : Int) ∧ j ≤ 32 ∧ OwnPool W wr X L R ∧ wr.heap[zb]? = some (.cells (wordsV zeros) t (0, 0))
set_option maxHeartbeats 4000000 in
theorem whole_in (n : Nat) (S : List (Int × Int)) (v : Value) (W : World) (h1 : 1 ≤ n) (h30 : n ≤ 30) (hS : ArgPairs W v S) (hl : S.length ≤ 200) (hT : LaidQ W) : Calls Tryd.prog 6 #[.int .i64 (n : Int), v] W fun e w' => e = .returned (.bool true) ∧ Below W.heap.size W w' := by
  obtain ⟨ii, hi, hbi⟩ := Option.map_eq_some_iff.1 intInfo9
  simp only [Prod.mk.injEq] at hbi
  obtain ⟨hi0, hi1, hi2⟩ := hbi
  have HT := Lib.hid hT
  have HS := Lib.hid hS.1
  have HB := Lib.hid hS.2
  obtain ⟨⟨s, c, rfl, _⟩, _⟩ := hS
  obtain ⟨q, hq⟩ : ∃ q, q = S.length := ⟨_, rfl⟩
  rw [← hq] at hl ⊢
  have HQ := Lib.hid hq
  have d0 : decide ((n : Int) < 1) = false := decide_eq_false (by omega)
  have d1 : decide (30 < (n : Int)) = false := decide_eq_false (by omega)
  have d2 : decide (200 < q) = false := decide_eq_false (by omega)
  clear hT hq
  go_enter Tryd.func6, Tryd.ntmps6
  go_wp2_with fail
  refine (new_ok n W h1 (by omega)).mono ?_
  rintro e w1 hp
  obtain ⟨mp, fb, rfl, ho⟩ := OwnMem.new hp
  have M1 := Lib.hid ho
  clear hp ho
  go_wp2_with fail
  have M2 := Lib.hid (M1.out.step ((Below.refl _ _).alloc (Nat.le_refl _) (.cells #[.int .i64 0, .int .i64 (n : Int)] 59)))
  refine (newpool_any mp fb n _ [(0, (n : Int))] _ _ M2.out.st (pairs_one (heap_alloc_new w1 _))).mono ?_
  rintro e w2 hp
  obtain ⟨X, rfl, ho, hmp, _, hn, hP, _⟩ := OwnPool.new_ M2.out HT.out hp (okq_one n h1)
  subst hmp
  have O0 := Lib.hid ho
  have HP := Lib.hid (show X.P = Pn n from hP.trans (natQ_one n))
  have HN := Lib.hid hn
  clear hp ho hP M1 M2 hn
  go_wp2_with fail
  go_loopw [9] (fun iv wr => WholeRel W X q iv wr) (fun i _ => q - (intOf i).toNat)
  case atStart => exact ⟨0, _, R0, rfl, Nat.zero_le _, O0.out⟩
  case round =>
    obtain ⟨k, L, R, rfl, hk, hO⟩ := hrel
    have O := Lib.hid hO
    clear hO
    by_cases hlt : k < q
    · obtain ⟨bb, o, c', d, x, hsl, hbw, hrow, e0, e1⟩ := pair_cells HS.out k (by rw [← HQ.out]; exact hlt)
      obtain ⟨rfl, rfl⟩ : s = some ⟨bb, o, none⟩ ∧ c' = c := by rw [← HQ.out] at hsl; cases hsl; exact ⟨rfl, rfl⟩
      have y0 := (O.out.below.cell (p := ⟨bb, o + k * 2, none⟩) hbw).trans e0
      have y1 := (O.out.below.cell (p := ⟨bb, o + k * 2 + 1, none⟩) hbw).trans e1
      have hx : I64 x := by
        have := (HB.out (S.getD k default) (by rw [List.getD_eq_getElem?_getD, List.getElem?_eq_getElem (by rw [← HQ.out]; exact hlt)]; exact List.getElem_mem _)).2
        rw [hrow] at this; exact this
      have HX := Lib.hid hx
      have O1 := Lib.hid (O.out.step ((Below.refl _ _).alloc (Nat.le_refl _) (.cells #[.int .i64 d, .int .i64 x] 43)))
      clear hsl e0 e1 hrow hbw O
      by_cases d1 : d = 1
      · subst d1
        go_wp2_with fail
        go_loopw [11, 12] (fun lv iv wr => WasRel W X n L R lv iv wr) (fun _ i _ => n - (intOf i).toNat)
        case atStart => exact ⟨0, rfl, Nat.zero_le _, O1.out, World.ownsRow_nil _ _ _ _⟩
        case round =>
          obtain ⟨j, rfl, hj, hO, hR⟩ := hrel
          have OW := Lib.hid hO
          have RW := Lib.hid hR
          clear hO hR O1
          by_cases hlt2 : j < n
          · have hjI : I64 (j : Int) := by constructor <;> omega
            obtain ⟨z, hz⟩ : ∃ z, R j = z := ⟨_, rfl⟩
            have WS : Hid (wasV R (j + 1) = wasV R j ++ [.int .i64 (z : Int)]) := Lib.hid (by rw [wasV_snoc, hz])
            have RF : Hid (refI R (j : Int) = (z : Int)) := Lib.hid (by rw [refI_nat, hz])
            have R8 := Lib.hid (RW.out.alloc (.cells #[.int .i64 (z : Int)] 3))
            have O8 := Lib.hid (OW.out.step ((Below.refl _ _).alloc (Nat.le_refl _) (.cells #[.int .i64 (z : Int)] 3)))
            have BZ := Lib.hid O8.out.below.size
            have NA := Lib.hid (one_at9 wr (z : Int) 3)
            clear hz
            go_wp2_with (first
              | (go_at_call 22; refine (OW.out.refs_ RF.out hjI).mono ?_; rintro e w30 ⟨rfl, rfl⟩)
              | (at_builtin; refine wpList_append_own _ rfl (.tmp 70) (.tmp 74) 35 rfl W.heap.size 3 ii (.int .i64 0) 1 8 Tryd.underlying35 hi hi0 hi1 hi2 rfl (by decide) _ j _ rfl R8.out ⟨wr.heap.size, 0, none⟩ 1 1 [.int .i64 (z : Int)] rfl rfl NA.out (by simp [Value.oneCell']) (by unfold maxLen; omega) (by omega) BZ.out ?_; intro v3 w8 ho hg _
                 have R9 : Hid (w8.ownsRow W.heap.size 3 1 v3 (j + 1) (wasV R (j + 1))) := Lib.hid (by rw [WS.out]; exact ho)
                 have O9 := Lib.hid (O8.out.append R8.out hg (Nat.le_refl _) (by decide))
                 clear ho hg))
            go_roundw
            case rel => exact ⟨j + 1, by go_num, by omega, O9.out, R9.out⟩
            case measure => simp [intOf]; omega
          · obtain rfl : j = n := by omega
            have hup := freeL_up (0, j) R
            have hmem := mem_freeL (0, j) R
            cases hF : freeL (0, j) R with
            | nil =>
              obtain ⟨a1, a2, a3⟩ := pn_none j R L (fun x hx h0 => by
                have := (hmem x).2 ⟨by simp only; omega, h0⟩
                rw [hF] at this
                simp at this)
              have A1 := Lib.hid a1
              have A2 := Lib.hid a2
              have A3 := Lib.hid a3
              clear a1 a2 a3 hup hmem hF
              go_wp2_with fail
              refine (OW.out.alloc_ HP.out A1.out A2.out A3.out).mono ?_
              rintro e w20 ⟨rfl, ho⟩
              have OX := Lib.hid ho
              clear ho
              obtain ⟨Lz, hLz⟩ : ∃ l, l = L := ⟨_, rfl⟩
              obtain ⟨Rz, hRz⟩ : ∃ r, r = R := ⟨_, rfl⟩
              have OZ := Lib.hid OX.out
              rw [← hLz, ← hRz] at OZ
              clear hLz hRz
              go_wp2_with fail
              go_loopw [18, 19] (fun hv iv wr => CountRel W X j Lz Rz hv iv wr) (fun _ i _ => j - (intOf i).toNat)
              case atStart => exact ⟨0, rfl, rfl, Nat.zero_le _, OZ.out⟩
              case round =>
                obtain ⟨i4, rfl, rfl, hj, hO⟩ := hrel
                have OC := Lib.hid hO
                clear hO
                have hcl := cntH_le Rz i4
                by_cases hlt4 : i4 < j
                · have hjI : I64 (i4 : Int) := by constructor <;> omega
                  have hm := OC.out.st.fit.most i4
                  by_cases h0 : Rz i4 = 0
                  · have RF : Hid (refI Rz (i4 : Int) = 0) := Lib.hid (by rw [refI_nat, h0]; rfl)
                    have CN : Hid (cntH Rz (i4 + 1) = cntH Rz i4) := Lib.hid (by rw [cntH, if_pos h0]; rfl)
                    clear h0 hm
                    go_wp2_with (go_at_call 22; refine (OC.out.refs_ RF.out hjI).mono ?_; rintro e w30 ⟨rfl, rfl⟩)
                    go_roundw
                    case rel => exact ⟨i4 + 1, by rw [CN.out], by go_num, by omega, OC.out⟩
                    case measure => simp [intOf]; omega
                  · obtain ⟨z, hz⟩ : ∃ z, Rz i4 = z + 1 := ⟨Rz i4 - 1, by omega⟩
                    have RF : Hid (refI Rz (i4 : Int) = (z : Int) + 1) := Lib.hid (by rw [refI_nat, hz]; rfl)
                    have CN : Hid (cntH Rz (i4 + 1) = cntH Rz i4 + 1) := Lib.hid (by rw [cntH, if_neg h0])
                    have hz64 : z ≤ 63 := by omega
                    have g1 : decide ((z : Int) + 1 < 0) = false := decide_eq_false (by omega)
                    have g2 : decide (64 < (z : Int) + 1) = false := decide_eq_false (by omega)
                    have g3 : decide (0 < (z : Int) + 1) = true := decide_eq_true (by omega)
                    clear h0 hm hz
                    go_wp2_with (go_at_call 22; refine (OC.out.refs_ RF.out hjI).mono ?_; rintro e w30 ⟨rfl, rfl⟩)
                    go_roundw
                    case rel => exact ⟨i4 + 1, by rw [CN.out]; go_num, by go_num, by omega, OC.out⟩
                    case measure => simp [intOf]; omega
                · obtain rfl : i4 = j := by omega
                  have hpl := pn_left i4 Rz
                  obtain ⟨l, hl2⟩ : ∃ l, leftA (Pn i4) Rz 0 = l := ⟨_, rfl⟩
                  have LL := Lib.hid hl2
                  rw [hl2] at hpl
                  clear hl2
                  generalize cntH Rz i4 = hh at *
                  have hsum : (hh : Int) + (l : Int) = (i4 : Int) := by omega
                  go_wp2_with (go_at_call 23; refine (OC.out.left_ HP.out LL.out).mono ?_; rintro e w31 ⟨rfl, ho⟩; have OC := Lib.hid ho; clear ho)
                  go_roundw
                  case rel => exact ⟨k + 1, _, _, by go_num, by omega, OC.out⟩
                  case measure => simp [intOf]; omega
            | cons y r =>
              have hy := (hmem y).1 (by rw [hF]; simp)
              have hyj : y < j := by have := hy.1.2; simp only at this; omega
              obtain ⟨a1, a2, a3⟩ := pn_alloc j y R L hyj hy.2 (fun x hx h0 => by
                have hm := (hmem x).2 ⟨by simp only; omega, h0⟩
                rw [hF] at hm hup
                obtain ⟨u1, _⟩ := List.pairwise_cons.1 hup
                rcases List.mem_cons.1 hm with e | e
                · omega
                · have := u1 x e; omega)
              have A1 := Lib.hid a1
              have A2 := Lib.hid a2
              have A3 := Lib.hid a3
              have R0Y := Lib.hid hy.2
              have LEN := Lib.hid OW.out.st.mem.len
              clear a1 a2 a3 hup hmem hF hy
              go_wp2_with fail
              refine (alloc_is (show allocA X.P R 0 = ((y : Int), 0) by rw [HP.out]; exact A1.out) (show allocL X.P R 0 L = putRow L y zeros by rw [HP.out]; exact A2.out) (show allocR X.P R 0 = upd R y 1 by rw [HP.out]; exact A3.out) OW.out.st OW.out.table).mono ?_
              rintro e w20 ⟨rfl, hm⟩
              have OX := Lib.hid (OW.out.move hm)
              have RX := Lib.hid (row_moves RW.out OW.out.st hm (by decide))
              clear hm
              go_wp2_with fail
              refine (page_ok X.mp X.fb X.n y _ w20 OX.out.st.mem (by rw [HN.out]; exact hyj)).mono ?_
              rintro e w21 ⟨pv, rfl, hnew, hb⟩
              rw [rowOf_zeroed LEN.out (by rw [HN.out]; exact hyj)] at hnew
              obtain ⟨zb, zt, rfl, hzb, hz⟩ := hnew
              rw [show zeros.length = 32 from rfl]
              have OX := Lib.hid (OX.out.step hb)
              have RX := Lib.hid (ownsRow_only (B := fun _ => False) RX.out (Only.below hb) (fun _ _ => id))
              have HZ := Lib.hid hz
              clear hb hz hzb
              obtain ⟨g, cap, hv, _, _⟩ := RX.out.form (by omega)
              subst hv
              have cy : w21.cell? ⟨g, y, none⟩ = some (.int .i64 0) := by
                have h' := RX.out.cells (g := g) rfl y _ (wasV_get R j y hyj)
                rw [Addr.add_mid, Nat.zero_add, R0Y.out] at h'
                exact h'
              go_wp2_with fail
              go_loopw [17] (fun iv wr => ZeroRel W X (putRow L y zeros) (upd R y 1) zb zt iv wr) (fun i _ => 32 - (intOf i).toNat)
              case atStart => exact ⟨0, rfl, Nat.zero_le _, OX.out, HZ.out⟩
              case round =>
                obtain ⟨i3, rfl, hi3, hO, hzz⟩ := hrel
                have OX := Lib.hid hO
                have HZ := Lib.hid hzz
                clear hO hzz
                by_cases hlt3 : i3 < 32
                · have c3 : wr.cell? ⟨zb, i3, none⟩ = some (.int .u32 0) := by
                    rw [cell_of_row _ _ _ _ _ _ HZ.out, wordsV_get zeros i3 hlt3, zeros_get]
                  go_wp2
                  go_roundw
                  case rel => exact ⟨i3 + 1, by go_num, by omega, OX.out, HZ.out⟩
                  case measure => simp [intOf]; omega
                · obtain rfl : i3 = 32 := by omega
                  rw [show ((32 : Nat) : Int) = 32 from rfl]
                  obtain ⟨Lz, hLz⟩ : ∃ l, l = (putRow L y zeros) := ⟨_, rfl⟩
                  obtain ⟨Rz, hRz⟩ : ∃ r, r = (upd R y 1) := ⟨_, rfl⟩
                  have OZ := Lib.hid OX.out
                  rw [← hLz, ← hRz] at OZ
                  clear hLz hRz
                  go_wp2_with fail
                  go_loopw [18, 19] (fun hv iv wr => CountRel W X j Lz Rz hv iv wr) (fun _ i _ => j - (intOf i).toNat)
                  case atStart => exact ⟨0, rfl, rfl, Nat.zero_le _, OZ.out⟩
                  case round =>
                    obtain ⟨i4, rfl, rfl, hj, hO⟩ := hrel
                    have OC := Lib.hid hO
                    clear hO
                    have hcl := cntH_le Rz i4
                    by_cases hlt4 : i4 < j
                    · have hjI : I64 (i4 : Int) := by constructor <;> omega
                      have hm := OC.out.st.fit.most i4
                      by_cases h0 : Rz i4 = 0
                      · have RF : Hid (refI Rz (i4 : Int) = 0) := Lib.hid (by rw [refI_nat, h0]; rfl)
                        have CN : Hid (cntH Rz (i4 + 1) = cntH Rz i4) := Lib.hid (by rw [cntH, if_pos h0]; rfl)
                        clear h0 hm
                        go_wp2_with (go_at_call 22; refine (OC.out.refs_ RF.out hjI).mono ?_; rintro e w30 ⟨rfl, rfl⟩)
                        go_roundw
                        case rel => exact ⟨i4 + 1, by rw [CN.out], by go_num, by omega, OC.out⟩
                        case measure => simp [intOf]; omega
                      · obtain ⟨z, hz⟩ : ∃ z, Rz i4 = z + 1 := ⟨Rz i4 - 1, by omega⟩
                        have RF : Hid (refI Rz (i4 : Int) = (z : Int) + 1) := Lib.hid (by rw [refI_nat, hz]; rfl)
                        have CN : Hid (cntH Rz (i4 + 1) = cntH Rz i4 + 1) := Lib.hid (by rw [cntH, if_neg h0])
                        have hz64 : z ≤ 63 := by omega
                        have g1 : decide ((z : Int) + 1 < 0) = false := decide_eq_false (by omega)
                        have g2 : decide (64 < (z : Int) + 1) = false := decide_eq_false (by omega)
                        have g3 : decide (0 < (z : Int) + 1) = true := decide_eq_true (by omega)
                        clear h0 hm hz
                        go_wp2_with (go_at_call 22; refine (OC.out.refs_ RF.out hjI).mono ?_; rintro e w30 ⟨rfl, rfl⟩)
                        go_roundw
                        case rel => exact ⟨i4 + 1, by rw [CN.out]; go_num, by go_num, by omega, OC.out⟩
                        case measure => simp [intOf]; omega
                    · obtain rfl : i4 = j := by omega
                      have hpl := pn_left i4 Rz
                      obtain ⟨l, hl2⟩ : ∃ l, leftA (Pn i4) Rz 0 = l := ⟨_, rfl⟩
                      have LL := Lib.hid hl2
                      rw [hl2] at hpl
                      clear hl2
                      generalize cntH Rz i4 = hh at *
                      have hsum : (hh : Int) + (l : Int) = (i4 : Int) := by omega
                      go_wp2_with (go_at_call 23; refine (OC.out.left_ HP.out LL.out).mono ?_; rintro e w31 ⟨rfl, ho⟩; have OC := Lib.hid ho; clear ho)
                      go_roundw
                      case rel => exact ⟨k + 1, _, _, by go_num, by omega, OC.out⟩
                      case measure => simp [intOf]; omega
      · by_cases d2 : d = 2
        · subst d2
          go_wp2_with fail
          refine (O1.out.share_ HP.out rfl rfl HX.out).mono ?_
          rintro e w20 ⟨rfl, ho⟩
          have OX := Lib.hid ho
          clear ho O1
          obtain ⟨Lz, hLz⟩ : ∃ l, l = L := ⟨_, rfl⟩
          obtain ⟨Rz, hRz⟩ : ∃ r, r = (shareR (Pn n) R x) := ⟨_, rfl⟩
          have OZ := Lib.hid OX.out
          rw [← hLz, ← hRz] at OZ
          clear hLz hRz
          go_wp2_with fail
          go_loopw [18, 19] (fun hv iv wr => CountRel W X n Lz Rz hv iv wr) (fun _ i _ => n - (intOf i).toNat)
          case atStart => exact ⟨0, rfl, rfl, Nat.zero_le _, OZ.out⟩
          case round =>
            obtain ⟨i4, rfl, rfl, hj, hO⟩ := hrel
            have OC := Lib.hid hO
            clear hO
            have hcl := cntH_le Rz i4
            by_cases hlt4 : i4 < n
            · have hjI : I64 (i4 : Int) := by constructor <;> omega
              have hm := OC.out.st.fit.most i4
              by_cases h0 : Rz i4 = 0
              · have RF : Hid (refI Rz (i4 : Int) = 0) := Lib.hid (by rw [refI_nat, h0]; rfl)
                have CN : Hid (cntH Rz (i4 + 1) = cntH Rz i4) := Lib.hid (by rw [cntH, if_pos h0]; rfl)
                clear h0 hm
                go_wp2_with (go_at_call 22; refine (OC.out.refs_ RF.out hjI).mono ?_; rintro e w30 ⟨rfl, rfl⟩)
                go_roundw
                case rel => exact ⟨i4 + 1, by rw [CN.out], by go_num, by omega, OC.out⟩
                case measure => simp [intOf]; omega
              · obtain ⟨z, hz⟩ : ∃ z, Rz i4 = z + 1 := ⟨Rz i4 - 1, by omega⟩
                have RF : Hid (refI Rz (i4 : Int) = (z : Int) + 1) := Lib.hid (by rw [refI_nat, hz]; rfl)
                have CN : Hid (cntH Rz (i4 + 1) = cntH Rz i4 + 1) := Lib.hid (by rw [cntH, if_neg h0])
                have hz64 : z ≤ 63 := by omega
                have g1 : decide ((z : Int) + 1 < 0) = false := decide_eq_false (by omega)
                have g2 : decide (64 < (z : Int) + 1) = false := decide_eq_false (by omega)
                have g3 : decide (0 < (z : Int) + 1) = true := decide_eq_true (by omega)
                clear h0 hm hz
                go_wp2_with (go_at_call 22; refine (OC.out.refs_ RF.out hjI).mono ?_; rintro e w30 ⟨rfl, rfl⟩)
                go_roundw
                case rel => exact ⟨i4 + 1, by rw [CN.out]; go_num, by go_num, by omega, OC.out⟩
                case measure => simp [intOf]; omega
            · obtain rfl : i4 = n := by omega
              have hpl := pn_left i4 Rz
              obtain ⟨l, hl2⟩ : ∃ l, leftA (Pn i4) Rz 0 = l := ⟨_, rfl⟩
              have LL := Lib.hid hl2
              rw [hl2] at hpl
              clear hl2
              generalize cntH Rz i4 = hh at *
              have hsum : (hh : Int) + (l : Int) = (i4 : Int) := by omega
              go_wp2_with (go_at_call 23; refine (OC.out.left_ HP.out LL.out).mono ?_; rintro e w31 ⟨rfl, ho⟩; have OC := Lib.hid ho; clear ho)
              go_roundw
              case rel => exact ⟨k + 1, _, _, by go_num, by omega, OC.out⟩
              case measure => simp [intOf]; omega
        · by_cases d3 : d = 3
          · subst d3
            go_wp2_with fail
            refine (O1.out.free_ HP.out rfl rfl HX.out).mono ?_
            rintro e w20 ⟨rfl, ho⟩
            have OX := Lib.hid ho
            clear ho O1
            obtain ⟨Lz, hLz⟩ : ∃ l, l = L := ⟨_, rfl⟩
            obtain ⟨Rz, hRz⟩ : ∃ r, r = (freeR (Pn n) R x) := ⟨_, rfl⟩
            have OZ := Lib.hid OX.out
            rw [← hLz, ← hRz] at OZ
            clear hLz hRz
            go_wp2_with fail
            go_loopw [18, 19] (fun hv iv wr => CountRel W X n Lz Rz hv iv wr) (fun _ i _ => n - (intOf i).toNat)
            case atStart => exact ⟨0, rfl, rfl, Nat.zero_le _, OZ.out⟩
            case round =>
              obtain ⟨i4, rfl, rfl, hj, hO⟩ := hrel
              have OC := Lib.hid hO
              clear hO
              have hcl := cntH_le Rz i4
              by_cases hlt4 : i4 < n
              · have hjI : I64 (i4 : Int) := by constructor <;> omega
                have hm := OC.out.st.fit.most i4
                by_cases h0 : Rz i4 = 0
                · have RF : Hid (refI Rz (i4 : Int) = 0) := Lib.hid (by rw [refI_nat, h0]; rfl)
                  have CN : Hid (cntH Rz (i4 + 1) = cntH Rz i4) := Lib.hid (by rw [cntH, if_pos h0]; rfl)
                  clear h0 hm
                  go_wp2_with (go_at_call 22; refine (OC.out.refs_ RF.out hjI).mono ?_; rintro e w30 ⟨rfl, rfl⟩)
                  go_roundw
                  case rel => exact ⟨i4 + 1, by rw [CN.out], by go_num, by omega, OC.out⟩
                  case measure => simp [intOf]; omega
                · obtain ⟨z, hz⟩ : ∃ z, Rz i4 = z + 1 := ⟨Rz i4 - 1, by omega⟩
                  have RF : Hid (refI Rz (i4 : Int) = (z : Int) + 1) := Lib.hid (by rw [refI_nat, hz]; rfl)
                  have CN : Hid (cntH Rz (i4 + 1) = cntH Rz i4 + 1) := Lib.hid (by rw [cntH, if_neg h0])
                  have hz64 : z ≤ 63 := by omega
                  have g1 : decide ((z : Int) + 1 < 0) = false := decide_eq_false (by omega)
                  have g2 : decide (64 < (z : Int) + 1) = false := decide_eq_false (by omega)
                  have g3 : decide (0 < (z : Int) + 1) = true := decide_eq_true (by omega)
                  clear h0 hm hz
                  go_wp2_with (go_at_call 22; refine (OC.out.refs_ RF.out hjI).mono ?_; rintro e w30 ⟨rfl, rfl⟩)
                  go_roundw
                  case rel => exact ⟨i4 + 1, by rw [CN.out]; go_num, by go_num, by omega, OC.out⟩
                  case measure => simp [intOf]; omega
              · obtain rfl : i4 = n := by omega
                have hpl := pn_left i4 Rz
                obtain ⟨l, hl2⟩ : ∃ l, leftA (Pn i4) Rz 0 = l := ⟨_, rfl⟩
                have LL := Lib.hid hl2
                rw [hl2] at hpl
                clear hl2
                generalize cntH Rz i4 = hh at *
                have hsum : (hh : Int) + (l : Int) = (i4 : Int) := by omega
                go_wp2_with (go_at_call 23; refine (OC.out.left_ HP.out LL.out).mono ?_; rintro e w31 ⟨rfl, ho⟩; have OC := Lib.hid ho; clear ho)
                go_roundw
                case rel => exact ⟨k + 1, _, _, by go_num, by omega, OC.out⟩
                case measure => simp [intOf]; omega
          · by_cases d4 : d = 4
            · subst d4
              go_wp2_with fail
              refine (O1.out.write_ x 5 _).mono ?_
              rintro e w20 ⟨k4, L4, rfl, ho⟩
              have OX := Lib.hid ho
              clear ho O1
              obtain ⟨Lz, hLz⟩ : ∃ l, l = L4 := ⟨_, rfl⟩
              obtain ⟨Rz, hRz⟩ : ∃ r, r = R := ⟨_, rfl⟩
              have OZ := Lib.hid OX.out
              rw [← hLz, ← hRz] at OZ
              clear hLz hRz
              go_wp2_with fail
              go_loopw [18, 19] (fun hv iv wr => CountRel W X n Lz Rz hv iv wr) (fun _ i _ => n - (intOf i).toNat)
              case atStart => exact ⟨0, rfl, rfl, Nat.zero_le _, OZ.out⟩
              case round =>
                obtain ⟨i4, rfl, rfl, hj, hO⟩ := hrel
                have OC := Lib.hid hO
                clear hO
                have hcl := cntH_le Rz i4
                by_cases hlt4 : i4 < n
                · have hjI : I64 (i4 : Int) := by constructor <;> omega
                  have hm := OC.out.st.fit.most i4
                  by_cases h0 : Rz i4 = 0
                  · have RF : Hid (refI Rz (i4 : Int) = 0) := Lib.hid (by rw [refI_nat, h0]; rfl)
                    have CN : Hid (cntH Rz (i4 + 1) = cntH Rz i4) := Lib.hid (by rw [cntH, if_pos h0]; rfl)
                    clear h0 hm
                    go_wp2_with (go_at_call 22; refine (OC.out.refs_ RF.out hjI).mono ?_; rintro e w30 ⟨rfl, rfl⟩)
                    go_roundw
                    case rel => exact ⟨i4 + 1, by rw [CN.out], by go_num, by omega, OC.out⟩
                    case measure => simp [intOf]; omega
                  · obtain ⟨z, hz⟩ : ∃ z, Rz i4 = z + 1 := ⟨Rz i4 - 1, by omega⟩
                    have RF : Hid (refI Rz (i4 : Int) = (z : Int) + 1) := Lib.hid (by rw [refI_nat, hz]; rfl)
                    have CN : Hid (cntH Rz (i4 + 1) = cntH Rz i4 + 1) := Lib.hid (by rw [cntH, if_neg h0])
                    have hz64 : z ≤ 63 := by omega
                    have g1 : decide ((z : Int) + 1 < 0) = false := decide_eq_false (by omega)
                    have g2 : decide (64 < (z : Int) + 1) = false := decide_eq_false (by omega)
                    have g3 : decide (0 < (z : Int) + 1) = true := decide_eq_true (by omega)
                    clear h0 hm hz
                    go_wp2_with (go_at_call 22; refine (OC.out.refs_ RF.out hjI).mono ?_; rintro e w30 ⟨rfl, rfl⟩)
                    go_roundw
                    case rel => exact ⟨i4 + 1, by rw [CN.out]; go_num, by go_num, by omega, OC.out⟩
                    case measure => simp [intOf]; omega
                · obtain rfl : i4 = n := by omega
                  have hpl := pn_left i4 Rz
                  obtain ⟨l, hl2⟩ : ∃ l, leftA (Pn i4) Rz 0 = l := ⟨_, rfl⟩
                  have LL := Lib.hid hl2
                  rw [hl2] at hpl
                  clear hl2
                  generalize cntH Rz i4 = hh at *
                  have hsum : (hh : Int) + (l : Int) = (i4 : Int) := by omega
                  go_wp2_with (go_at_call 23; refine (OC.out.left_ HP.out LL.out).mono ?_; rintro e w31 ⟨rfl, ho⟩; have OC := Lib.hid ho; clear ho)
                  go_roundw
                  case rel => exact ⟨k + 1, _, _, by go_num, by omega, OC.out⟩
                  case measure => simp [intOf]; omega
            · have b1 : (d == 1) = false := by simpa using d1
              have b2 : (d == 2) = false := by simpa using d2
              have b3 : (d == 3) = false := by simpa using d3
              have b4 : (d == 4) = false := by simpa using d4
              have OX := Lib.hid O1.out
              clear O1
              obtain ⟨Lz, hLz⟩ : ∃ l, l = L := ⟨_, rfl⟩
              obtain ⟨Rz, hRz⟩ : ∃ r, r = R := ⟨_, rfl⟩
              have OZ := Lib.hid OX.out
              rw [← hLz, ← hRz] at OZ
              clear hLz hRz
              go_wp2_with fail
              go_loopw [18, 19] (fun hv iv wr => CountRel W X n Lz Rz hv iv wr) (fun _ i _ => n - (intOf i).toNat)
              case atStart => exact ⟨0, rfl, rfl, Nat.zero_le _, OZ.out⟩
              case round =>
                obtain ⟨i4, rfl, rfl, hj, hO⟩ := hrel
                have OC := Lib.hid hO
                clear hO
                have hcl := cntH_le Rz i4
                by_cases hlt4 : i4 < n
                · have hjI : I64 (i4 : Int) := by constructor <;> omega
                  have hm := OC.out.st.fit.most i4
                  by_cases h0 : Rz i4 = 0
                  · have RF : Hid (refI Rz (i4 : Int) = 0) := Lib.hid (by rw [refI_nat, h0]; rfl)
                    have CN : Hid (cntH Rz (i4 + 1) = cntH Rz i4) := Lib.hid (by rw [cntH, if_pos h0]; rfl)
                    clear h0 hm
                    go_wp2_with (go_at_call 22; refine (OC.out.refs_ RF.out hjI).mono ?_; rintro e w30 ⟨rfl, rfl⟩)
                    go_roundw
                    case rel => exact ⟨i4 + 1, by rw [CN.out], by go_num, by omega, OC.out⟩
                    case measure => simp [intOf]; omega
                  · obtain ⟨z, hz⟩ : ∃ z, Rz i4 = z + 1 := ⟨Rz i4 - 1, by omega⟩
                    have RF : Hid (refI Rz (i4 : Int) = (z : Int) + 1) := Lib.hid (by rw [refI_nat, hz]; rfl)
                    have CN : Hid (cntH Rz (i4 + 1) = cntH Rz i4 + 1) := Lib.hid (by rw [cntH, if_neg h0])
                    have hz64 : z ≤ 63 := by omega
                    have g1 : decide ((z : Int) + 1 < 0) = false := decide_eq_false (by omega)
                    have g2 : decide (64 < (z : Int) + 1) = false := decide_eq_false (by omega)
                    have g3 : decide (0 < (z : Int) + 1) = true := decide_eq_true (by omega)
                    clear h0 hm hz
                    go_wp2_with (go_at_call 22; refine (OC.out.refs_ RF.out hjI).mono ?_; rintro e w30 ⟨rfl, rfl⟩)
                    go_roundw
                    case rel => exact ⟨i4 + 1, by rw [CN.out]; go_num, by go_num, by omega, OC.out⟩
                    case measure => simp [intOf]; omega
                · obtain rfl : i4 = n := by omega
                  have hpl := pn_left i4 Rz
                  obtain ⟨l, hl2⟩ : ∃ l, leftA (Pn i4) Rz 0 = l := ⟨_, rfl⟩
                  have LL := Lib.hid hl2
                  rw [hl2] at hpl
                  clear hl2
                  generalize cntH Rz i4 = hh at *
                  have hsum : (hh : Int) + (l : Int) = (i4 : Int) := by omega
                  go_wp2_with (go_at_call 23; refine (OC.out.left_ HP.out LL.out).mono ?_; rintro e w31 ⟨rfl, ho⟩; have OC := Lib.hid ho; clear ho)
                  go_roundw
                  case rel => exact ⟨k + 1, _, _, by go_num, by omega, OC.out⟩
                  case measure => simp [intOf]; omega
    · obtain rfl : k = q := by omega
      go_wp2_with (go_at_call 10; refine (awake9 _ O.out.table).mono ?_; rintro e w10 ⟨rfl, hb⟩; have O := Lib.hid (O.out.step hb); clear hb)
      go_ret
      exact ⟨rfl, O.out.below⟩
theorem pallocWhole_walk (n : Int) (v : Value) (S : List (Int × Int)) (W : World) (_hn : I64 n) (hS : ArgPairs W v S) (hT : LaidQ W) : Calls Tryd.prog 6 #[.int .i64 n, v] W fun e w' => e = .returned (.bool true) ∧ Below W.heap.size W w' := by
  by_cases h : n < 1 ∨ (1 ≤ n ∧ 30 < n) ∨ (1 ≤ n ∧ n ≤ 30 ∧ 200 < S.length)
  · obtain ⟨⟨s, c, rfl, _⟩, _⟩ := hS
    exact whole_far n _ c s W h hT
  · obtain ⟨n, rfl⟩ := Int.eq_ofNat_of_zero_le (show 0 ≤ n by omega)
    exact whole_in n S v W (by omega) (by omega) hS (by omega) hT
end Go.Proofs.YtiohnhgoddfebaaDoor
