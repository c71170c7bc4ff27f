/- The walk of PallocLeast. Condition: the library's table reads as its initialiser lays it. -/
import Derived.Test.YtiohnhgoddfebaaDoorA11
namespace Go.Proofs.YtiohnhgoddfebaaDoor
open Go.RowKit
set_option maxRecDepth 100000

theorem head_of {L : List Nat} {k : Nat} (hup : L.Pairwise (· < ·)) (hk : k ∈ L) (h : ∀ x ∈ L, k ≤ x) : ∃ r, L = k :: r := by
  cases L with
  | nil => simp at hk
  | cons x r =>
    refine ⟨r, ?_⟩
    obtain ⟨h1, _⟩ := List.pairwise_cons.1 hup
    rcases List.mem_cons.1 hk with e | e
    · rw [e]
    · have := h1 k e
      have := h x (by simp)
      omega
/-- One range of all frames: the least free one is handed out. -/
def Pn (n : Nat) : List (Nat × Nat) := [(0, n)]
theorem pn_alloc (n k : Nat) (R : Nat → Nat) (L : List Int) (hk : k < n) (h0 : R k = 0) (hl : ∀ x, x < n → R x = 0 → k ≤ x) : allocA (Pn n) R 0 = ((k : Int), 0) ∧ allocL (Pn n) R 0 L = putRow L k zeros ∧ allocR (Pn n) R 0 = upd R k 1 := by
  obtain ⟨r, hr⟩ := head_of (freeL_up (0, n) R) ((mem_freeL _ _ k).2 ⟨by simp only; omega, h0⟩) (fun x hx => by
    have := (mem_freeL _ _ x).1 hx
    exact hl x (by simp only at this; omega) this.2)
  have e2 : partB (Pn n) 0 = true := rfl
  have e3 : (Pn n).getD (0 : Int).toNat (0, 0) = (0, n) := rfl
  refine ⟨?_, ?_, ?_⟩
  · rw [allocA, e2, if_pos rfl, e3, hr]
  · rw [allocL, e2, if_pos rfl, e3, hr]
  · rw [allocR, e2, if_pos rfl, e3, hr]
theorem pn_none (n : Nat) (R : Nat → Nat) (L : List Int) (h : ∀ x, x < n → R x ≠ 0) : allocA (Pn n) R 0 = (0, 3) ∧ allocL (Pn n) R 0 L = L ∧ allocR (Pn n) R 0 = R := by
  have e : freeL (0, n) R = [] := by
    rw [List.eq_nil_iff_forall_not_mem]
    intro x hx
    have := (mem_freeL _ _ _).1 hx
    exact h x (by simp only at this; omega) this.2
  have e2 : partB (Pn n) 0 = true := rfl
  have e3 : (Pn n).getD (0 : Int).toNat (0, 0) = (0, n) := rfl
  refine ⟨?_, ?_, ?_⟩
  · rw [allocA, e2, if_pos rfl, e3, e]
  · rw [allocL, e2, if_pos rfl, e3, e]
  · rw [allocR, e2, if_pos rfl, e3, e]
theorem pn_own (n k : Nat) (hk : k < n) : ownA (Pn n) (k : Int) = (0, 0) := ownA_is _ _ 0 (by simp [Pn]) ((inP_iff _ _).2 (by simp [Pn, List.getD_eq_getElem?_getD]; omega)) (fun j hj => absurd hj (Nat.not_lt_zero _))
theorem pn_held (n k : Nat) (R : Nat → Nat) (hk : k < n) : heldE (Pn n) R (k : Int) = (if R k = 0 then 4 else 0) := by
  rw [heldE, pn_own n k hk, if_pos rfl, refI_nat]
  by_cases h : R k = 0
  · rw [if_pos h, if_pos (by omega)]
  · rw [if_neg h, if_neg (by omega)]
theorem natQ_one (n : Nat) : natQ [(0, (n : Int))] = Pn n := by simp [natQ, Pn]
def Rk (k : Nat) : Nat → Nat := fun x => if x < k then 1 else 0
theorem rk_next (k : Nat) : upd (Rk k) k 1 = Rk (k + 1) := by
  funext x
  unfold upd Rk
  by_cases h : x = k
  · subst h; simp
  · rw [if_neg h]
    by_cases h2 : x < k
    · rw [if_pos h2, if_pos (by omega)]
    · rw [if_neg h2, if_neg (by omega)]
theorem rk_zero : Rk 0 = R0 := by funext x; simp [Rk]
theorem least_far (n f : Int) (W : World) (h : n < 1 ∨ (1 ≤ n ∧ 30 < n) ∨ (1 ≤ n ∧ n ≤ 30 ∧ f < 0) ∨ (1 ≤ n ∧ n ≤ 30 ∧ 0 ≤ f ∧ n ≤ f)) (hT : LaidQ W) : Calls Tryd.prog 8 #[.int .i64 n, .int .i64 f] W fun e w' => e = .returned (.bool true) ∧ Below W.heap.size W w' := by
  have HT := Lib.hid hT
  clear hT
  rcases h with h | ⟨h1, h⟩ | ⟨h1, h2, h⟩ | ⟨h1, h2, h3, h⟩
  · have d1 : decide (n < 1) = true := decide_eq_true h
    go_enter Tryd.func8, Tryd.ntmps8
    go_wp2_with (go_at_call 10; refine (awake9 _ HT.out).mono ?_; rintro e w2 ⟨rfl, hb⟩; have B := Lib.hid hb; clear hb)
    go_ret
    exact ⟨rfl, B.out⟩
  · have d1 : decide (n < 1) = false := decide_eq_false (by omega)
    have d2 : decide (30 < n) = true := decide_eq_true h
    go_enter Tryd.func8, Tryd.ntmps8
    go_wp2_with (go_at_call 10; refine (awake9 _ HT.out).mono ?_; rintro e w2 ⟨rfl, hb⟩; have B := Lib.hid hb; clear hb)
    go_ret
    exact ⟨rfl, B.out⟩
  · have d1 : decide (n < 1) = false := decide_eq_false (by omega)
    have d2 : decide (30 < n) = false := decide_eq_false (by omega)
    have d3 : decide (f < 0) = true := decide_eq_true h
    go_enter Tryd.func8, Tryd.ntmps8
    go_wp2_with (go_at_call 10; refine (awake9 _ HT.out).mono ?_; rintro e w2 ⟨rfl, hb⟩; have B := Lib.hid hb; clear hb)
    go_ret
    exact ⟨rfl, B.out⟩
  · have d1 : decide (n < 1) = false := decide_eq_false (by omega)
    have d2 : decide (30 < n) = false := decide_eq_false (by omega)
    have d3 : decide (f < 0) = false := decide_eq_false (by omega)
    have d4 : decide (n ≤ f) = true := decide_eq_true h
    go_enter Tryd.func8, Tryd.ntmps8
    go_wp2_with (go_at_call 10; refine (awake9 _ HT.out).mono ?_; rintro e w2 ⟨rfl, hb⟩; have B := Lib.hid hb; clear hb)
    go_ret
    exact ⟨rfl, B.out⟩
def LeastRel (W : World) (X : PIx) (n : Nat) (iv : Value) (wr : World) : Prop := ∃ (k : Nat) (L : List Int), iv = .int .i64 (k : Int) ∧ k ≤ n ∧ OwnPool W wr X L (Rk k)
set_option maxHeartbeats 1000000 in
theorem least_in (n f : Nat) (W : World) (h1 : 1 ≤ n) (h30 : n ≤ 30) (hf : f < n) (hT : LaidQ W) : Calls Tryd.prog 8 #[.int .i64 (n : Int), .int .i64 (f : Int)] W fun e w' => e = .returned (.bool true) ∧ Below W.heap.size W w' := by
  have HT := Lib.hid hT
  have d1 : decide ((n : Int) < 1) = false := decide_eq_false (by omega)
  have d2 : decide (30 < (n : Int)) = false := decide_eq_false (by omega)
  have d3 : decide ((f : Int) < 0) = false := decide_eq_false (by omega)
  have d4 : decide ((n : Int) ≤ (f : Int)) = false := decide_eq_false (by omega)
  clear hT
  go_enter Tryd.func8, Tryd.ntmps8
  go_wp2_with fail
  refine (new_ok n W h1 (by omega)).mono ?_
  rintro e w1 hp
  obtain ⟨mp, fb, rfl, ho⟩ := OwnMem.new hp
  have M1 := Lib.hid ho
  clear hp ho
  go_wp2_with fail
  have M2 := Lib.hid (M1.out.step ((Below.refl _ _).alloc (Nat.le_refl _) (.cells #[.int .i64 0, .int .i64 (n : Int)] 59)))
  refine (newpool_any mp fb n _ [(0, (n : Int))] _ _ M2.out.st (pairs_one (heap_alloc_new w1 _))).mono ?_
  rintro e w2 hp
  obtain ⟨X, rfl, ho, _, _, _, hP, _⟩ := OwnPool.new_ M2.out HT.out hp (okq_one n h1)
  have O0 := Lib.hid ho
  have HP := Lib.hid (show X.P = Pn n from hP.trans (natQ_one n))
  clear hp ho hP
  go_wp2_with fail
  go_loopw [9] (fun iv wr => LeastRel W X n iv wr) (fun i _ => n - (intOf i).toNat)
  case atStart => exact ⟨0, _, rfl, Nat.zero_le _, rk_zero ▸ O0.out⟩
  case round =>
    obtain ⟨k, L, rfl, hk, ho⟩ := hrel
    have O := Lib.hid ho
    clear ho
    by_cases hlt : k < n
    · obtain ⟨a1, a2, a3⟩ := pn_alloc n k (Rk k) L hlt (by simp [Rk]) (fun x _ hx => by
        unfold Rk at hx
        by_cases h2 : x < k
        · rw [if_pos h2] at hx; cases hx
        · omega)
      rw [rk_next] at a3
      have A1 := Lib.hid a1
      have A2 := Lib.hid a2
      have A3 := Lib.hid a3
      clear a1 a2 a3
      go_wp2_with (go_at_call 18; refine (O.out.alloc_ HP.out A1.out A2.out A3.out).mono ?_; rintro e w4 ⟨rfl, ho⟩; have O := Lib.hid ho; clear ho)
      go_roundw
      case rel => exact ⟨k + 1, _, by go_num, by omega, O.out⟩
      case measure => simp [intOf]; omega
    · obtain rfl : k = n := by omega
      have E1 : Hid (heldE (Pn k) (Rk k) (f : Int) = 0) := Lib.hid (by rw [pn_held k f _ hf]; simp [Rk, hf])
      have E2 : Hid (freeR (Pn k) (Rk k) (f : Int) = upd (Rk k) f 0) := Lib.hid (by rw [freeR, E1.out, if_pos rfl, Int.toNat_natCast]; simp [Rk, hf])
      have hx : I64 (f : Int) := by constructor <;> omega
      have hy : I64 ((k : Int) - 1) := by constructor <;> omega
      have last : ∀ R : Nat → Nat, heldE (Pn k) R ((k : Int) - 1) = (if R (k - 1) = 0 then 4 else 0) := fun R => by
        rw [show (k : Int) - 1 = ((k - 1 : Nat) : Int) by omega]; exact pn_held k (k - 1) R (by omega)
      have lastR : ∀ R : Nat → Nat, freeR (Pn k) R ((k : Int) - 1) = (if R (k - 1) = 0 then R else upd R (k - 1) (R (k - 1) - 1)) := fun R => by
        rw [freeR, last]
        by_cases h0 : R (k - 1) = 0
        · rw [if_pos h0, if_pos h0, if_neg (by decide)]
        · rw [if_neg h0, if_neg h0, if_pos rfl, show ((k : Int) - 1).toNat = k - 1 by omega]
      by_cases he : f = k - 1
      · have q2 : (k : Int) - 1 = (f : Int) := by omega
        have E3 : Hid (heldE (Pn k) (upd (Rk k) f 0) ((k : Int) - 1) = 4) := Lib.hid (by rw [last, he, upd_same, if_pos rfl])
        have E4 : Hid (freeR (Pn k) (upd (Rk k) f 0) ((k : Int) - 1) = upd (Rk k) f 0) := Lib.hid (by rw [lastR, he, upd_same, if_pos rfl])
        obtain ⟨a1, a2, a3⟩ := pn_alloc k f (upd (Rk k) f 0) L hf (upd_same _ _ _) (fun x hxk hx => by
          by_cases h2 : x = f
          · omega
          · rw [upd_other _ _ _ _ h2] at hx
            simp [Rk, hxk] at hx)
        have A1 := Lib.hid a1
        have A2 := Lib.hid a2
        have A3 := Lib.hid a3
        clear a1 a2 a3 last lastR he hy
        rw [q2] at E3 E4
        go_wp2_with fail
        refine (O.out.free_ HP.out E1.out E2.out hx).mono ?_
        rintro e w4 ⟨rfl, ho⟩
        have O := Lib.hid ho
        clear ho
        go_wp2_with fail
        refine (O.out.free_ HP.out E3.out E4.out hx).mono ?_
        rintro e w5 ⟨rfl, ho⟩
        have O := Lib.hid ho
        clear ho
        go_wp2_with fail
        refine (O.out.alloc_ HP.out A1.out A2.out A3.out).mono ?_
        rintro e w6 ⟨rfl, ho⟩
        have O := Lib.hid ho
        clear ho
        go_wp2_with fail
        refine (awake9 _ O.out.table).mono ?_
        rintro e w7 ⟨rfl, hb⟩
        have O := Lib.hid (O.out.step hb)
        clear hb
        go_wp2
        go_ret
        exact ⟨rfl, O.out.below⟩
      · have q1 : ((f : Int) != (k : Int) - 1) = true := by simp; omega
        have q2 : ¬ (f : Int) = (k : Int) - 1 := by omega
        have hlast : upd (Rk k) f 0 (k - 1) = 1 := by rw [upd_other _ _ _ _ (fun e => he e.symm)]; simp [Rk]; omega
        have E3 : Hid (heldE (Pn k) (upd (Rk k) f 0) ((k : Int) - 1) = 0) := Lib.hid (by rw [last, hlast, if_neg (by decide)])
        have E4 : Hid (freeR (Pn k) (upd (Rk k) f 0) ((k : Int) - 1) = upd (upd (Rk k) f 0) (k - 1) 0) := Lib.hid (by rw [lastR, hlast, if_neg (by decide)])
        obtain ⟨a1, a2, a3⟩ := pn_alloc k f (upd (upd (Rk k) f 0) (k - 1) 0) L hf (by rw [upd_other _ _ _ _ he, upd_same]) (fun x hxk hx => by
          by_cases h3 : x = k - 1
          · omega
          · rw [upd_other _ _ _ _ h3] at hx
            by_cases h2 : x = f
            · omega
            · rw [upd_other _ _ _ _ h2] at hx
              simp [Rk, hxk] at hx)
        have A1 := Lib.hid a1
        have A2 := Lib.hid a2
        have A3 := Lib.hid a3
        clear a1 a2 a3 last lastR he hlast
        go_wp2_with fail
        refine (O.out.free_ HP.out E1.out E2.out hx).mono ?_
        rintro e w4 ⟨rfl, ho⟩
        have O := Lib.hid ho
        clear ho
        go_wp2_with fail
        refine (O.out.free_ HP.out E3.out E4.out hy).mono ?_
        rintro e w5 ⟨rfl, ho⟩
        have O := Lib.hid ho
        clear ho
        go_wp2_with fail
        refine (O.out.alloc_ HP.out A1.out A2.out A3.out).mono ?_
        rintro e w6 ⟨rfl, ho⟩
        have O := Lib.hid ho
        clear ho
        go_wp2_with fail
        refine (awake9 _ O.out.table).mono ?_
        rintro e w7 ⟨rfl, hb⟩
        have O := Lib.hid (O.out.step hb)
        clear hb
        go_wp2
        go_ret
        exact ⟨rfl, O.out.below⟩
theorem pallocLeast_walk (n f : Int) (W : World) (_hn : I64 n) (_hf : I64 f) (hT : LaidQ W) : Calls Tryd.prog 8 #[.int .i64 n, .int .i64 f] W fun e w' => e = .returned (.bool true) ∧ Below W.heap.size W w' := by
  by_cases h : n < 1 ∨ (1 ≤ n ∧ 30 < n) ∨ (1 ≤ n ∧ n ≤ 30 ∧ f < 0) ∨ (1 ≤ n ∧ n ≤ 30 ∧ 0 ≤ f ∧ n ≤ f)
  · exact least_far n f W h hT
  · obtain ⟨n, rfl⟩ := Int.eq_ofNat_of_zero_le (show 0 ≤ n by omega)
    obtain ⟨f, rfl⟩ := Int.eq_ofNat_of_zero_le (show 0 ≤ f by omega)
    exact least_in n f W (by omega) (by omega) (by omega) hT
end Go.Proofs.YtiohnhgoddfebaaDoor
