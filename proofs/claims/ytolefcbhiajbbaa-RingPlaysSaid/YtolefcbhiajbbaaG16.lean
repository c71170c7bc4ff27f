/- The contract of the law's lies: the messages lie where they should. Condition: both rings lie in memory and agree. -/
import Derived.Test.YtolefcbhiajbbaaG15
namespace Go.Proofs.Ytolefcbhiajbbaa
open Go.RowKit
set_option maxRecDepth 100000

/-- The messages lie where the document says. -/
def LieG (c d out : Nat) (g : Nat → Int) (Ls : List (List Int)) : Prop := ∀ i, i < Ls.length → (1 ≤ (Ls.getD i []).length ∧ (Ls.getD i []).length ≤ d) ∧ g (begG c d out i) = ((Ls.getD i []).length : Int) ∧ ∀ n, n < (Ls.getD i []).length → g (begG c d out i + (1 + n)) = (Ls.getD i []).getD n 0
set_option maxHeartbeats 1000000 in
theorem lies_okG {w : World} {b kb c d f m out : Nat} {g : Nat → Int} {lv : Value} {Ls : List (List Int)} (K : KepSt kb g w) (R : RngAt w b c d f m) (LS : LsAt w lv Ls) (hm : Ls.length = m) (hf : out % c = f) (ho : out ≤ 300) (hL : LieG c d out g Ls) :
    Calls Try.prog 20 #[.pointer (some ⟨kb, 0, none⟩), .pointer (some ⟨b, 0, none⟩), .agg (refA c d out lv)] w fun e w' => e = .returned (.bool true) ∧ Below w.heap.size w w' := by
  have hmf : ∀ (fn : Fn) (first cap : Array Value) (w : World), (Instr.makeFunc fn first cap).run Try.prog w = .ok (.func fn first cap) w := fun _ _ _ _ => rfl
  obtain ⟨la, lc, hlv⟩ := LS.form
  rw [hm] at hlv
  subst hlv
  obtain ⟨nb, hnb⟩ : ∃ nb, nb = w.heap.size := ⟨_, rfl⟩
  obtain ⟨w1, hw1⟩ : ∃ w1, w1 = w.alloc (.cells (refA c d out (.slice la m lc)) 30) := ⟨_, rfl⟩
  have B1 : Hid (Below w.heap.size w w1) := Lib.hid (by rw [hw1]; exact below_step1 _ _)
  have N1 : w1.heap[nb]? = some (.cells (refA c d out (.slice la m lc)) 30 (0, 0)) := by rw [hw1, hnb]; exact heap_alloc_new _ _
  have NB : Hid (∀ V, Below w1.heap.size w1 V → V.heap[nb]? = some (.cells (refA c d out (.slice la m lc)) 30 (0, 0)) ∧ V.cell? ⟨nb, 2, none⟩ = some (.slice la m lc)) := Lib.hid fun V hV => by
    have h := below_block hV N1
    exact ⟨h, by rw [cell_of_row _ _ _ _ _ _ h]; rfl⟩
  have KV : Hid (∀ V, Below w1.heap.size w1 V → KepSt kb g V) := Lib.hid fun V hV => (KepSt.keep kb).below K (B1.out.trans (hV.mono B1.out.size))
  have RV : Hid (∀ V, Below w1.heap.size w1 V → RngAt V b c d f m) := Lib.hid fun V hV => R.below (B1.out.trans (hV.mono B1.out.size))
  have LV : Hid (∀ V, Below w1.heap.size w1 V → LsAt V (.slice la m lc) Ls) := Lib.hid fun V hV => LS.below (B1.out.trans (hV.mono B1.out.size))
  have AT := Lib.hid fun (i : Nat) (hi : i ≤ 8) (V : World) => at_okG c d out i (.slice la m lc) la m lc rfl ⟨R.c1, R.c8⟩ R.d8 ho hi V
  have HL := Lib.hid hL
  have HM := Lib.hid hm
  have BL := Lib.hid fun i => begG_lt (c := c) (d := d) (f := out) (i := i) R.c1
  have WL := Lib.hid (wdsG_le R.c8 R.d8)
  have B0 : Hid (begG c d f 0 = begG c d out 0) := Lib.hid (by unfold begG; rw [← hf]; simp)
  have m8 : m ≤ 8 := Nat.le_trans R.mc R.c8
  have d8 := R.d8
  have HW := Lib.hid hw1
  clear LS K R hf ho hL hm hw1 N1
  unfold refA at HW
  go_enter Try.func20, Try.ntmps20
  unfold refA
  go_wp2_with fail
  rw [← HW.out, ← hnb]
  clear HW hnb
  go_loopw [7] (fun i wr => ∃ j : Nat, i = .int .i64 (j : Int) ∧ j ≤ m ∧ Below w1.heap.size w1 wr) (fun i _ => (m - (intOf i).toNat))
  case atStart => exact ⟨0, rfl, Nat.zero_le _, Below.refl _ _⟩
  case round =>
    obtain ⟨j, rfl, hj, hb⟩ := hrel
    have B := Lib.hid hb
    have c2 := (NB.out wr hb).2
    clear hb
    by_cases hlt : j < m
    · obtain ⟨at_, hat⟩ : ∃ a, a = begG c d out j := ⟨_, rfl⟩
      have AJ := Lib.hid (AT.out j (by omega) wr)
      have LI := HL.out j (by have := HM.out; omega)
      have at72 := BL.out j
      have := WL.out
      rw [← hat] at AJ LI at72
      obtain ⟨⟨l1, l2⟩, l3, l4⟩ := LI
      obtain ⟨M, hM⟩ : ∃ M, M = Ls.getD j [] := ⟨_, rfl⟩
      rw [← hM] at l1 l2 l3 l4
      have LR : Hid (∀ V, Below w1.heap.size w1 V → ∃ lb lo gi uc, la = some ⟨lb, lo, none⟩ ∧ V.cell? ⟨lb, lo + j, none⟩ = some (.slice (some ⟨gi, 0, none⟩) M.length uc) ∧ MsgG V gi M) := Lib.hid fun V hV => by
        obtain ⟨lb, lo, u, e1, e2, gi, uc, rfl, e3⟩ := (LV.out V hV).at_ j (by have := HM.out; omega)
        rw [← hM] at e2 e3
        exact ⟨lb, lo, gi, uc, e1, e2, e3⟩
      obtain ⟨n, hn⟩ : ∃ n, n = M.length := ⟨_, rfl⟩
      rw [← hn] at l1 l2 l3 l4 LR
      have L4 := Lib.hid l4
      have HN := Lib.hid hn
      have a72 : at_ + n < 72 := by omega
      have n8 : n ≤ 8 := by omega
      have w64 : IntKind.i64.wrap (n : Int) = (n : Int) := IntWalk.i64_in _ (by omega)
      have i0 : (0 : Int) ≤ (at_ : Int) := by omega
      have i1 : (at_ : Int) < 72 := by omega
      clear hat at72 this hM hn l4
      go_wp2_with (refine wpR_load refTy rfl (.tmp 5) rfl nb rfl _ (NB.out wr B.out).1 rfl ?_)
      refine AJ.out.mono ?_
      rintro e w2 ⟨rfl, hb⟩
      have B2 := Lib.hid (B.out.trans (hb.mono B.out.size))
      obtain ⟨lb, lo, gi, uc, rfl, x1, x2⟩ := LR.out w2 B2.out
      have c2 := (NB.out w2 B2.out).2
      have ck := (KV.out w2 B2.out).cell at_ (by omega)
      rw [l3] at ck
      clear hb x2
      go_wp2_with fail
      go_quiet (fail)
      obtain ⟨w3, hw3⟩ : ∃ w3, w3 = w2.drewN nq := ⟨_, rfl⟩
      have B3 := Lib.hid (show Below w1.heap.size w1 w3 by rw [hw3]; exact below_drewN B2.out nq)
      rw [← hw3]
      clear hw3 ck c2 x1
      go_wp2_with fail
      go_loopw [9] (fun i v => ∃ q : Nat, i = .int .i64 (q : Int) ∧ q ≤ n ∧ Below w1.heap.size w1 v) (fun i _ => (n - (intOf i).toNat))
      case atStart => exact ⟨0, rfl, Nat.zero_le _, B3.out⟩
      case round =>
        obtain ⟨q, rfl, hq, hb⟩ := hrel
        have BQ := Lib.hid hb
        have c2 := (NB.out _ hb).2
        obtain ⟨lb', lo', gi', uc', e1, x1, x2⟩ := LR.out _ hb
        obtain ⟨rfl, rfl⟩ : lb = lb' ∧ lo = lo' := by injection e1 with e1; injection e1 with e1 e2; exact ⟨e1, e2⟩
        clear hb e1
        by_cases hlt2 : q < n
        · have xq := x2.cell q (by have := HN.out; omega)
          have ck := (KV.out _ BQ.out).cell (at_ + 1 + q) (by omega)
          rw [Nat.add_assoc, L4.out q hlt2] at ck
          rw [← Nat.add_assoc] at ck
          generalize M.getD q 0 = x at xq ck
          have j0 : (0 : Int) ≤ (at_ : Int) + 1 + (q : Int) := by omega
          have j1 : (at_ : Int) + 1 + (q : Int) < 72 := by omega
          clear x2
          go_wp2_with fail
          go_quiet (fail)
          have BZ := Lib.hid (below_drewN BQ.out nq)
          go_wp2
          go_roundw
          case rel => exact ⟨q + 1, by go_num, by omega, BZ.out⟩
          case measure => simp [intOf]; omega
        · obtain rfl : n = q := by omega
          clear x2
          go_wp2
          go_roundw
          case rel => exact ⟨j + 1, by go_num, by omega, BQ.out⟩
          case measure => simp [intOf]; omega
    · obtain rfl : m = j := by omega
      clear hj hlt
      rcases Nat.eq_zero_or_pos m with h0 | h0
      · have NX := Lib.hid (next_emptyG (by have := RV.out wr B.out; rwa [h0] at this) 15 #[.pointer (some ⟨kb, 0, none⟩)] #[])
        have FN : Hid (∀ w' : World, Below wr.heap.size wr w' → Below w.heap.size w w') := Lib.hid fun w' hb => B1.out.trans ((B.out.trans (hb.mono B.out.size)).mono B1.out.size)
        subst h0
        go_wp2_with (go_at_call 21; refine NX.out.mono ?_; rintro e w2 ⟨rfl, hb⟩; have B2 := Lib.hid (FN.out w2 hb); clear hb)
        go_ret
        exact ⟨rfl, B2.out⟩
      · obtain ⟨k, hk⟩ : ∃ k, m = k + 1 := ⟨m - 1, by omega⟩
        obtain ⟨⟨l1, l2⟩, l3, -⟩ := HL.out 0 (by have := HM.out; omega)
        obtain ⟨lb, lo, u, e1, x1, gi, uc, hu, -⟩ := (LV.out wr B.out).at_ 0 (by have := HM.out; omega)
        have NX := next_okG (KepSt.keep kb) (KepSt.gets kb) (by have := RV.out wr B.out; rwa [hk] at this) (by exact WL.out) (by decide) (KV.out wr B.out)
        rw [B0.out, l3] at NX
        obtain ⟨n, hn⟩ : ∃ n, n = (Ls.getD 0 []).length := ⟨_, rfl⟩
        rw [← hn] at l1 l2 NX hu
        rw [lenG_is (by omega)] at NX
        have NX := Lib.hid NX
        have FN : Hid (∀ w' : World, Below wr.heap.size wr w' → Below w.heap.size w w') := Lib.hid fun w' hb => B1.out.trans ((B.out.trans (hb.mono B.out.size)).mono B1.out.size)
        subst e1
        rw [hu, Nat.add_zero] at x1
        have g0 : decide (0 < m) = true := decide_eq_true h0
        have g1 : (0 : Int) < (m : Int) := by omega
        have g2 : ¬ m = 0 := by omega
        clear hn l3 hu hk
        go_wp2_with (go_at_call 21; refine NX.out.mono ?_; rintro e w2 ⟨rfl, hb⟩; have B2 := Lib.hid (FN.out w2 hb); clear hb)
        go_ret
        exact ⟨rfl, B2.out⟩
end Go.Proofs.Ytolefcbhiajbbaa
