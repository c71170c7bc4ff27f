/- The contracts of package conf's ask, frames, askWhole, Check. Condition: the configuration's lists lie in memory. -/
import Derived.Test.YtepfljfaclakeaaC4
import Derived.Laws.EntriesVeiled
namespace Go.Proofs.Ytepfljfaclakeaa
open Go.RowKit
set_option maxRecDepth 100000

/-- A configuration in a variable of its own. -/
def CBox (w : World) (b : Nat) (v1 v2 v3 : Value) : Prop := w.heap[b]? = some (.cells #[v1, v2, v3] 26 (0, 0))
theorem CBox.c0 {w : World} {b : Nat} {v1 v2 v3 : Value} (h : CBox w b v1 v2 v3) : w.cell? ⟨b, 0, none⟩ = some v1 := by rw [cell_of_row w b _ _ _ _ h]; rfl
theorem CBox.c1 {w : World} {b : Nat} {v1 v2 v3 : Value} (h : CBox w b v1 v2 v3) : w.cell? ⟨b, 1, none⟩ = some v2 := by rw [cell_of_row w b _ _ _ _ h]; rfl
theorem CBox.c2 {w : World} {b : Nat} {v1 v2 v3 : Value} (h : CBox w b v1 v2 v3) : w.cell? ⟨b, 2, none⟩ = some v3 := by rw [cell_of_row w b _ _ _ _ h]; rfl
theorem CBox.below {w w' : World} {b : Nat} {v1 v2 v3 : Value} (h : CBox w b v1 v2 v3) (hb : Below w.heap.size w w') : CBox w' b v1 v2 v3 := below_block hb h
theorem CBox.new (w : World) (v1 v2 v3 : Value) : CBox (w.alloc (.cells #[v1, v2, v3] 26)) w.heap.size v1 v2 v3 := heap_alloc_new w _
theorem range_all (p : Nat → Bool) (j : Nat) : (List.range (j + 1)).all p = ((List.range j).all p && p j) := by simp [List.range_succ]
theorem range_not (p : Nat → Bool) (j n : Nat) (h : j < n) (hp : p j = false) : (List.range n).all p = false := by
  cases ha : (List.range n).all p with
  | false => rfl
  | true => rw [List.all_eq_true] at ha; rw [ha j (by simp [h])] at hp; cases hp

def HasRel (w : World) (W : List Row) (n : Nat) (i : Value) (wr : World) : Prop := ∃ j : Nat, i = .int .i64 (j : Int) ∧ j ≤ n ∧ Below w.heap.size w wr ∧ (List.range j).all (hasB W) = true
set_option maxHeartbeats 2000000 in
theorem ask_in (a : Option Addr) (n c : Nat) (v2 v3 : Value) (P W H : List Row) (hn : n = P.length) (ht : n ≤ 1000) (w : World) (h : CfAt w (.slice a n c) v2 v3 (P, W, H)) : Calls Try.prog 34 #[.agg #[.slice a n c, v2, v3]] w fun e w' => e = endE (mayB (P, W, H)) 2 ∧ Below w.heap.size w w' := by
  have hmf : ∀ (fn : Fn) (first cap : Array Value) (w : World), (Instr.makeFunc fn first cap).run Try.prog w = .ok (.func fn first cap) w := fun _ _ _ _ => rfl
  obtain ⟨w1, hw1⟩ : ∃ w1, w1 = (w.alloc (.cells #[.slice a n c, v2, v3] 26)).alloc (.cells #[.func (.func 43) #[] #[.pointer (some ⟨w.heap.size, 0, none⟩)]] 75) := ⟨_, rfl⟩
  have hb1 : Below w.heap.size w w1 := by rw [hw1]; exact below_two w _ _
  have HX : CBox w1 w.heap.size (.slice a n c) v2 v3 := by
    rw [hw1]
    exact (CBox.new w _ _ _).below ((Below.refl _ _).alloc (Nat.le_refl _) _)
  have HF : w1.cell? ⟨w.heap.size + 1, 0, none⟩ = some (.func (.func 43) #[] #[.pointer (some ⟨w.heap.size, 0, none⟩)]) := by
    rw [hw1, cell_of_row _ _ _ _ _ _ (heap_alloc2_new w _ _)]; rfl
  have HC := Lib.hid (h.below hb1)
  have X1 := Lib.hid HX
  have F1 := Lib.hid HF
  have B1 := Lib.hid hb1
  have c1 := HX.c1
  have HN := Lib.hid hn
  have hm : mayB (P, W, H) = ((inB n 1 8 && P.all partB) && ((inB W.length 1 32 && W.all (winB n)) && ((inB H.length 0 16 && H.all (chanB n)) && (List.range n).all (hasB W)))) := by rw [hn]; rfl
  have HM := Lib.hid hm
  clear h hb1 HX HF hn hm
  go_enter Try.func34, Try.ntmps34
  go_wp2_with fail
  rw [← hw1]
  clear hw1
  refine (askAll_part 46 #[] (enters Try.func46 rfl rfl) partB 1 8 _ P w1 HC.out.ps (fun W x y _ => by simpa using askPart_ok x y W)).mono ?_
  rintro e w2 ⟨rfl, hb⟩
  have K2 := Lib.hid hb
  rw [← HN.out]
  cases hr1 : (inB (n : Int) 1 8 && P.all partB) with
  | false => exact ⟨rfl, by rw [HM.out, hr1]; rfl, B1.out.trans (K2.out.mono B1.out.size)⟩
  | true =>
    rw [endE_true]
    clear hb
    have c1 := (X1.out.below K2.out).c1
    have c2 := (X1.out.below K2.out).c2
    go_wp2_with fail
    refine (askAll_win 48 _ (enters Try.func48 rfl rfl) (winB n) 1 32 _ W w2 (HC.out.below K2.out).ws (fun W x y hW => by simpa using askWin_ok x y w.heap.size (w.heap.size + 1) n c a W ((((K2.out.trans (hW.mono K2.out.size)).cell (p := ⟨w.heap.size + 1, 0, none⟩) (block_lt_of_cell F1.out))).trans F1.out) (X1.out.below (K2.out.trans (hW.mono K2.out.size))).c0 ht)).mono ?_
    rintro e w3 ⟨rfl, hb⟩
    have K3 := Lib.hid (K2.out.trans (hb.mono K2.out.size))
    clear hb
    cases hr2 : (inB (W.length : Int) 1 32 && W.all (winB n)) with
    | false => exact ⟨rfl, by rw [HM.out, hr1, hr2]; rfl, B1.out.trans (K3.out.mono B1.out.size)⟩
    | true =>
      rw [endE_true]
      have c1 := (X1.out.below K3.out).c1
      have c2 := (X1.out.below K3.out).c2
      go_wp2_with fail
      refine (askAll_chan 50 _ (enters Try.func50 rfl rfl) (chanB n) 0 16 _ H w3 (HC.out.below K3.out).hs (fun W x y z t hW => by simpa using askChan_ok x y z t w.heap.size (w.heap.size + 1) n c a W ((((K3.out.trans (hW.mono K3.out.size)).cell (p := ⟨w.heap.size + 1, 0, none⟩) (block_lt_of_cell F1.out))).trans F1.out) (X1.out.below (K3.out.trans (hW.mono K3.out.size))).c0 ht)).mono ?_
      rintro e w4 ⟨rfl, hb⟩
      have K4 := Lib.hid (K3.out.trans (hb.mono K3.out.size))
      clear hb
      cases hr3 : (inB (H.length : Int) 0 16 && H.all (chanB n)) with
      | false => exact ⟨rfl, by rw [HM.out, hr1, hr2, hr3]; rfl, B1.out.trans (K4.out.mono B1.out.size)⟩
      | true =>
        rw [endE_true]
        have c0 := (X1.out.below K4.out).c0
        go_wp2_with fail
        go_loopw [19] (fun i wr => HasRel w1 W n i wr) (fun i _ => (n - (intOf i).toNat))
        case atStart => exact ⟨0, rfl, Nat.zero_le _, K4.out, rfl⟩
        case round =>
          obtain ⟨j, rfl, hj, hB, hall⟩ := hrel
          have K5 := Lib.hid hB
          have ALL := Lib.hid hall
          clear hB hall c1 c2 c0
          by_cases hlt' : j < n
          · have c1 := (X1.out.below K5.out).c1
            have hlt1 : w.heap.size < wr.heap.size := lt_of_block (X1.out.below K5.out)
            go_wp2_with fail
            have A5 := Lib.hid ((Below.refl wr.heap.size wr).alloc (Nat.le_refl _) (.cells #[.int .i64 (j : Int)] 3))
            have K6 := Lib.hid (K5.out.trans (A5.out.mono K5.out.size))
            refine (containsFunc_win 52 #[.pointer (some ⟨wr.heap.size, 0, none⟩)] (enters Try.func52 rfl rfl) (fun T => T.getD 0 0 == (j : Int)) _ W _ (HC.out.below K6.out).ws (fun W x y hW => by simpa using askHas_ok x y j wr.heap.size W ((hW.cell (p := ⟨wr.heap.size, 0, none⟩) (by simp)).trans (by rw [cell_of_row _ _ _ _ _ _ (heap_alloc_new wr _)]; rfl)))).mono ?_
            rintro e w6 ⟨rfl, hb⟩
            have K7 := Lib.hid (K6.out.trans (hb.mono K6.out.size))
            clear hb
            cases hr4 : W.any (fun T => T.getD 0 0 == (j : Int)) with
            | false =>
              go_wp2_with fail
              refine (must_no _ _).mono ?_
              rintro e w7 ⟨rfl, rfl⟩
              exact ⟨rfl, by rw [HM.out, hr1, hr2, hr3, range_not (hasB W) j n hlt' hr4]; rfl, B1.out.trans (K7.out.mono B1.out.size)⟩
            | true =>
              have ALL2 : Hid ((List.range (j + 1)).all (hasB W) = true) := Lib.hid (by rw [range_all, ALL.out, show hasB W j = true from hr4]; rfl)
              go_wp2_with fail
              refine (must_yes _ _).mono ?_
              rintro e w7 ⟨rfl, rfl⟩
              go_wp2
              go_roundw
              case rel => exact ⟨j + 1, by go_num, by omega, K7.out, ALL2.out⟩
              case measure => simp [intOf]; omega
          · obtain rfl : j = n := by omega
            clear hlt'
            go_wp2
            go_end0
            exact ⟨by rw [HM.out, hr1, hr2, hr3, ALL.out]; rfl, B1.out.trans (K5.out.mono B1.out.size)⟩
theorem askConf_ok (v1 v2 v3 : Value) (C : Cf) (w : World) (h : CfAt w v1 v2 v3 C) : Calls Try.prog 34 #[.agg #[v1, v2, v3]] w fun e w' => e = endE (mayB C) 2 ∧ Below w.heap.size w w' := by
  obtain ⟨P, W, H⟩ := C
  have hps := h.ps
  obtain ⟨a, c, rfl, ht, _, _⟩ := hps
  exact ask_in a _ c v2 v3 P W H rfl ht w h

theorem sum_take (f : Row → Int) (S : List Row) (j : Nat) (h : j < S.length) : ((S.take (j + 1)).map f).sum = ((S.take j).map f).sum + f (S.getD j []) := by
  have e : S.getD j [] = S[j] := by simp [List.getD_eq_getElem?_getD, h]
  rw [List.take_succ_eq_append_getElem h, e, List.map_append, List.sum_append]
  simp
theorem sum_le (f : Row → Int) (k : Nat) : ∀ (S : List Row), (∀ T ∈ S, 0 ≤ f T ∧ f T ≤ k) → 0 ≤ (S.map f).sum ∧ (S.map f).sum ≤ (S.length : Int) * k
  | [], _ => by simp
  | T :: S, h => by
    have h1 := sum_le f k S (fun U hU => h U (by simp [hU]))
    have h2 := h T (by simp)
    simp only [List.map_cons, List.sum_cons, List.length_cons]
    rw [show ((S.length + 1 : Nat) : Int) * k = (S.length : Int) * k + k by push_cast; rw [Int.add_mul, Int.one_mul]]
    omega
theorem partF_le (T : Row) (h : partB T = true) : (4 ≤ T.getD 0 0 ∧ T.getD 0 0 ≤ 256) ∧ (1 ≤ T.getD 1 0 ∧ T.getD 1 0 ≤ 8) ∧ 0 ≤ partF T ∧ partF T ≤ 300 := by
  simp only [partB, inB, Bool.and_eq_true, decide_eq_true_eq] at h
  unfold partF
  omega
theorem chanF_le (n : Nat) (T : Row) (h : chanB n T = true) : (1 ≤ T.getD 2 0 ∧ T.getD 2 0 ≤ 8) ∧ (1 ≤ T.getD 3 0 ∧ T.getD 3 0 ≤ 8) ∧ (0 ≤ T.getD 2 0 * (T.getD 3 0 + 1) ∧ T.getD 2 0 * (T.getD 3 0 + 1) ≤ 72) ∧ 0 ≤ chanF T ∧ chanF T ≤ 300 := by
  simp only [chanB, inB, Bool.and_eq_true, decide_eq_true_eq] at h
  obtain ⟨-, -, -, ⟨a1, a2⟩, a3, a4⟩ := h
  have h1 : 0 ≤ T.getD 2 0 * (T.getD 3 0 + 1) := Int.mul_nonneg (by omega) (by omega)
  have h2 : T.getD 2 0 * (T.getD 3 0 + 1) ≤ 8 * 9 := Int.mul_le_mul (by omega) (by omega) (by omega) (by omega)
  unfold chanF
  omega
theorem mayB_parts {C : Cf} (h : mayB C = true) : (C.1.length ≤ 8 ∧ ∀ T ∈ C.1, partB T = true) ∧ (C.2.2.length ≤ 16 ∧ ∀ T ∈ C.2.2, chanB C.1.length T = true) := by
  simp only [mayB, Bool.and_eq_true, inB, decide_eq_true_eq, List.all_eq_true] at h
  obtain ⟨⟨⟨p1, p2⟩, p3⟩, -, ⟨⟨c1, c2⟩, c3⟩, -⟩ := h
  exact ⟨⟨by omega, p3⟩, by omega, c3⟩
theorem take_mem {S : List Row} {j : Nat} {p : Row → Prop} (h : ∀ T ∈ S, p T) : ∀ T ∈ S.take j, p T := fun T hT => h T (List.mem_of_mem_take hT)
def FrRel (w : World) (z : Int) (f : Row → Int) (S : List Row) (n : Nat) (s i : Value) (wr : World) : Prop := ∃ j : Nat, i = .int .i64 (j : Int) ∧ j ≤ n ∧ s = .int .i64 (z + ((S.take j).map f).sum) ∧ Below w.heap.size w wr
set_option maxHeartbeats 2000000 in
theorem frames_in (a1 a3 : Option Addr) (n c1 m c3 : Nat) (v2 : Value) (P W H : List Row) (hn : n = P.length) (hm : m = H.length) (ht : n ≤ 8) (ht3 : m ≤ 16) (hP : ∀ T ∈ P, partB T = true) (hH : ∀ T ∈ H, chanB n T = true) (w : World) (h : CfAt w (.slice a1 n c1) v2 (.slice a3 m c3) (P, W, H)) :
    Calls Try.prog 35 #[.agg #[.slice a1 n c1, v2, .slice a3 m c3]] w fun e w' => e = .returned (.int .i64 (framesC (P, W, H))) ∧ Below w.heap.size w w' := by
  obtain ⟨w1, hw1⟩ : ∃ w1, w1 = w.alloc (.cells #[.slice a1 n c1, v2, .slice a3 m c3] 26) := ⟨_, rfl⟩
  have hb1 : Below w.heap.size w w1 := by rw [hw1]; exact (Below.refl _ _).alloc (Nat.le_refl _) _
  have HX : CBox w1 w.heap.size (.slice a1 n c1) v2 (.slice a3 m c3) := by rw [hw1]; exact CBox.new w _ _ _
  have HC := Lib.hid (h.below hb1)
  have X1 := Lib.hid HX
  have B1 := Lib.hid hb1
  have d0 := HX.c0
  have HN := Lib.hid hn
  have HM := Lib.hid hm
  have PP := Lib.hid hP
  have HH := Lib.hid hH
  clear h hb1 HX hn hm hP hH
  go_enter Try.func35, Try.ntmps35
  go_wp2_with fail
  rw [← hw1]
  clear hw1
  go_wp2_with fail
  go_loopw [3, 11] (fun s i wr => FrRel w1 0 partF P n s i wr) (fun _ i _ => (n - (intOf i).toNat))
  case atStart => exact ⟨0, rfl, Nat.zero_le _, by simp, Below.refl _ _⟩
  case round =>
    obtain ⟨j, rfl, hj, rfl, hB⟩ := hrel
    have K := Lib.hid hB
    clear hB d0
    have hsum := sum_le partF 300 (P.take j) (take_mem fun T hT => (partF_le T (PP.out T hT)).2.2)
    have hlen : ((P.take j).length : Int) * (300 : Nat) ≤ 2400 := by
      have : (P.take j).length ≤ 8 := by rw [List.length_take]; omega
      have : ((P.take j).length : Int) ≤ 8 := by exact_mod_cast this
      omega
    obtain ⟨s, hs⟩ : ∃ s, s = ((P.take j).map partF).sum := ⟨_, rfl⟩
    rw [← hs] at hsum ⊢
    have SS := Lib.hid hs
    have s0 : 0 ≤ s := hsum.1
    have s1 : s ≤ 2400 := Int.le_trans hsum.2 hlen
    rw [Int.zero_add]
    clear hs hsum hlen
    by_cases hlt' : j < n
    · obtain ⟨_, _, hq, _, hT, hS⟩ := HC.out.ps
      have hq' := (Value.slice.inj hq).1
      subst hq'
      clear hq
      obtain ⟨b, o, rfl, hlt, hc⟩ := hS.resolve_left (by intro e; have := HN.out; simp only at e; rw [e] at this; simp at this; omega)
      obtain ⟨x, y, hrow, e0, e1⟩ := two_cells hT hc j (show j < P.length by have := HN.out; omega)
      have e0 := (K.out.cell (p := ⟨b, o + j * 2, none⟩) hlt).trans e0
      have e1 := (K.out.cell (p := ⟨b, o + j * 2 + 1, none⟩) hlt).trans e1
      simp only at hrow
      have hx := partF_le (P.getD j []) (PP.out _ (getD_mem (by have := HN.out; omega)))
      have hnext := sum_take partF P j (by have := HN.out; omega)
      rw [hrow] at hx hnext
      rw [← SS.out] at hnext
      obtain ⟨⟨x1, x2⟩, ⟨y1, y2⟩, -⟩ := hx
      simp only [List.getD_cons_zero, List.getD_cons_succ] at x1 x2 y1 y2
      rw [show partF [x, y] = x + (y + 2) / 3 from rfl] at hnext
      have HNX := Lib.hid hnext
      have hp := fun w => pieces_ok y 3 (by omega) (by omega) (by decide) (by decide) w
      obtain ⟨q, hq⟩ : ∃ q, q = (y + 3 - 1) / 3 := ⟨_, rfl⟩
      rw [← hq] at hp
      have q0 : 0 ≤ q := by omega
      have q1 : q ≤ 10 := by omega
      have HQ : Hid (q = (y + 2) / 3) := Lib.hid (by rw [hq, show y + 3 - 1 = y + 2 by omega])
      have HPC := Lib.hid hp
      clear hc hS hT hrow hnext hp hq
      go_wp2_with fail
      obtain ⟨w2, hw2⟩ : ∃ w2, w2 = wr.alloc (.cells #[.int .i64 x, .int .i64 y] 42) := ⟨_, rfl⟩
      have K2 : Hid (Below w1.heap.size w1 w2) := Lib.hid (by rw [hw2]; exact K.out.alloc K.out.size _)
      have g0 : w2.cell? ⟨wr.heap.size, 0, none⟩ = some (.int .i64 x) := by rw [hw2, cell_of_row _ _ _ _ _ _ (heap_alloc_new wr _)]; rfl
      have g1 : w2.cell? ⟨wr.heap.size, 1, none⟩ = some (.int .i64 y) := by rw [hw2, cell_of_row _ _ _ _ _ _ (heap_alloc_new wr _)]; rfl
      rw [← hw2]
      clear hw2
      go_quiet ((go_at_call 53; exact Calls.quiet_of_same ((HPC.out _).mono fun _ _ h => ⟨h.1, h.2.symm⟩)))
      go_wp2
      go_roundw
      case rel => exact ⟨j + 1, by go_num, by omega, by rw [HNX.out, HQ.out]; go_num, below_drewN K2.out _⟩
      case measure => simp [intOf]; omega
    · obtain rfl : j = n := by omega
      have SE : Hid (s = (P.map partF).sum) := Lib.hid (by rw [SS.out, HN.out, List.take_length])
      have d2 := (X1.out.below K.out).c2
      clear hlt' SS
      go_wp2_with fail
      go_loopw [3, 27] (fun z i wr => FrRel w1 s chanF H m z i wr) (fun _ i _ => (m - (intOf i).toNat))
      case atStart => exact ⟨0, rfl, Nat.zero_le _, by simp, K.out⟩
      case round =>
        obtain ⟨i, rfl, hi, rfl, hB⟩ := hrel
        have K' := Lib.hid hB
        clear hB d2
        have hsum := sum_le chanF 300 (H.take i) (take_mem fun T hT => (chanF_le _ T (HH.out T hT)).2.2.2)
        have hlen : ((H.take i).length : Int) * (300 : Nat) ≤ 4800 := by
          have : (H.take i).length ≤ 16 := by rw [List.length_take]; omega
          have : ((H.take i).length : Int) ≤ 16 := by exact_mod_cast this
          omega
        obtain ⟨z, hz⟩ : ∃ z, z = ((H.take i).map chanF).sum := ⟨_, rfl⟩
        rw [← hz] at hsum ⊢
        have ZZ := Lib.hid hz
        have z0 : 0 ≤ z := hsum.1
        have z1 : z ≤ 4800 := Int.le_trans hsum.2 hlen
        clear hz hsum hlen
        by_cases hlt' : i < m
        · obtain ⟨_, _, hq, _, hT, hS⟩ := HC.out.hs
          have hq' := (Value.slice.inj hq).1
          subst hq'
          clear hq
          obtain ⟨b, o, rfl, hlt, hc⟩ := hS.resolve_left (by intro e; have := HM.out; simp only at e; rw [e] at this; simp at this; omega)
          obtain ⟨x, y, u, v, hrow, e0, e1, e2, e3⟩ := four_cells hT hc i (show i < H.length by have := HM.out; omega)
          have e0 := (K'.out.cell (p := ⟨b, o + i * 4, none⟩) hlt).trans e0
          have e1 := (K'.out.cell (p := ⟨b, o + i * 4 + 1, none⟩) hlt).trans e1
          have e2 := (K'.out.cell (p := ⟨b, o + i * 4 + 2, none⟩) hlt).trans e2
          have e3 := (K'.out.cell (p := ⟨b, o + i * 4 + 3, none⟩) hlt).trans e3
          simp only at hrow
          have hx := chanF_le _ (H.getD i []) (HH.out _ (getD_mem (by have := HM.out; omega)))
          have hnext := sum_take chanF H i (by have := HM.out; omega)
          rw [hrow] at hx hnext
          rw [← ZZ.out] at hnext
          obtain ⟨⟨u1, u2⟩, ⟨v1, v2⟩, ⟨p1, p2⟩, -⟩ := hx
          simp only [List.getD_cons_zero, List.getD_cons_succ] at u1 u2 v1 v2 p1 p2
          rw [show chanF [x, y, u, v] = (u * (v + 1) + 31) / 32 from rfl] at hnext
          have HNX := Lib.hid hnext
          have hp := fun w => pieces_ok (u * (v + 1)) 32 p1 (by omega) (by decide) (by decide) w
          obtain ⟨r, hr⟩ : ∃ r, r = u * (v + 1) := ⟨_, rfl⟩
          rw [← hr] at hp p1 p2 HNX
          obtain ⟨q, hq⟩ : ∃ q, q = (r + 32 - 1) / 32 := ⟨_, rfl⟩
          rw [← hq] at hp
          have q0 : 0 ≤ q := by omega
          have q1 : q ≤ 10 := by omega
          have HQ : Hid (q = (r + 31) / 32) := Lib.hid (by rw [hq, show r + 32 - 1 = r + 31 by omega])
          have HPC := Lib.hid hp
          have hr2 : u * (v + 1) = r := hr.symm
          clear hc hS hT hrow hnext hp hq hr
          go_wp2_with fail
          refine (HPC.out _).mono ?_
          rintro e w3 ⟨rfl, rfl⟩
          have K2 : Hid (Below w1.heap.size w1 (wr.alloc (.cells #[.int .i64 x, .int .i64 y, .int .i64 u, .int .i64 v] 44))) := Lib.hid (K'.out.alloc K'.out.size _)
          go_wp2
          go_roundw
          case rel => exact ⟨i + 1, by go_num, by omega, by rw [HNX.out, HQ.out]; go_num, K2.out⟩
          case measure => simp [intOf]; omega
        · obtain rfl : i = m := by omega
          have ZE : Hid (z = (H.map chanF).sum) := Lib.hid (by rw [ZZ.out, HM.out, List.take_length])
          clear hlt' ZZ
          go_wp2
          go_ret
          exact ⟨by rw [SE.out, ZE.out]; rfl, B1.out.trans (K'.out.mono B1.out.size)⟩
end Go.Proofs.Ytepfljfaclakeaa
