/- The contracts of package plan's pieces, of what makes its iterators, and of the iterator over windows. Conditions: the configuration's lists lie in memory. -/
import Derived.Test.YtepfljfaclakeaaP1
import Derived.Test.YtepfljfaclakeaaC16
namespace Go.Proofs.Ytepfljfaclakeaa
open Go.RowKit Go.Shelf
attribute [local go_sem] Oper.semAt_some
set_option maxRecDepth 100000

theorem planPieces_ok (n k : Int) (h0 : 0 ≤ n) (h1 : n ≤ 1000000) (h2 : 1 ≤ k) (h3 : k ≤ 1000) (w : World) : Calls Try.prog 56 #[.int .i64 n, .int .i64 k] w fun e w' => e = .returned (.int .i64 ((n + k - 1) / k)) ∧ w = w' := by
  have hd : (n + k - 1).tdiv k = (n + k - 1) / k := Int.tdiv_eq_ediv_of_nonneg (by omega)
  have hk : ¬ k = 0 := by omega
  have b1 : 0 ≤ (n + k - 1) / k := Int.ediv_nonneg (by omega) (by omega)
  have b2 : (n + k - 1) / k ≤ n + k - 1 := Int.ediv_le_self _ (by omega)
  generalize (n + k - 1) / k = q at *
  go_enter Try.func56, Try.ntmps56
  go_wp2
  go_ret
  exact ⟨rfl, rfl⟩
theorem planPieces_is (n k q : Int) (h0 : 0 ≤ n) (h1 : n ≤ 1000000) (h2 : 1 ≤ k) (h3 : k ≤ 1000) (hq : (n + k - 1) / k = q) (w : World) : Calls Try.prog 56 #[.int .i64 n, .int .i64 k] w fun e w' => e = .returned (.int .i64 q) ∧ w = w' := hq ▸ planPieces_ok n k h0 h1 h2 h3 w

/-- The windows, with their ticks; the owners of frames, with how many. -/
abbrev WinE := Int × Int
abbrev OwnE := (Int × Int) × Int
def winAt (S : List Row) (i : Nat) : WinE := ((i : Int), (S.getD i []).getD 1 0)
def winN (S : List Row) (n : Nat) : List WinE := (List.range n).map (winAt S)
def ownAt (S : List Row) (i : Nat) : OwnE := ((0, (i : Int)), (S.getD i []).getD 0 0)
def trapAt (S : List Row) (i : Nat) : OwnE := ((1, (i : Int)), ((S.getD i []).getD 1 0 + 2) / 3)
def chanAt (S : List Row) (i : Nat) : OwnE := ((2, (i : Int)), chanF (S.getD i []))
def partN (S : List Row) (n : Nat) : List OwnE := (List.range n).flatMap fun i => [ownAt S i, trapAt S i]
def chanN (S : List Row) (n : Nat) : List OwnE := (List.range n).map (chanAt S)
def winL (C : Cf) : List WinE := winN C.2.1 C.2.1.length
def ownL (C : Cf) : List OwnE := partN C.1 C.1.length ++ chanN C.2.2 C.2.2.length
theorem winN_succ (S : List Row) (n : Nat) : winN S (n + 1) = winN S n ++ [winAt S n] := by simp [winN, List.range_succ]
theorem partN_succ (S : List Row) (n : Nat) : partN S (n + 1) = partN S n ++ [ownAt S n, trapAt S n] := by simp [partN, List.range_succ]
theorem chanN_succ (S : List Row) (n : Nat) : chanN S (n + 1) = chanN S n ++ [chanAt S n] := by simp [chanN, List.range_succ]
theorem winN_pre (S : List Row) {m n : Nat} (h : m ≤ n) : winN S m <+: winN S n := by
  obtain ⟨k, rfl⟩ := Nat.exists_eq_add_of_le h
  clear h
  induction k with
  | zero => exact List.prefix_rfl
  | succ k ih => rw [show m + (k + 1) = (m + k) + 1 from rfl, winN_succ]; exact ih.trans (List.prefix_append _ _)
theorem partN_pre (S : List Row) {m n : Nat} (h : m ≤ n) : partN S m <+: partN S n := by
  obtain ⟨k, rfl⟩ := Nat.exists_eq_add_of_le h
  clear h
  induction k with
  | zero => exact List.prefix_rfl
  | succ k ih => rw [show m + (k + 1) = (m + k) + 1 from rfl, partN_succ]; exact ih.trans (List.prefix_append _ _)
theorem chanN_pre (S : List Row) {m n : Nat} (h : m ≤ n) : chanN S m <+: chanN S n := by
  obtain ⟨k, rfl⟩ := Nat.exists_eq_add_of_le h
  clear h
  induction k with
  | zero => exact List.prefix_rfl
  | succ k ih => rw [show m + (k + 1) = (m + k) + 1 from rfl, chanN_succ]; exact ih.trans (List.prefix_append _ _)
def encW (x : WinE) : Array Value := #[.int .i64 x.1, .int .i64 x.2]
def encO (x : OwnE) : Array Value := #[.agg #[.int .i64 x.1.1, .int .i64 x.1.2], .int .i64 x.2]

/-- A function value's iterator, made: what it was made of lies in a variable of its own. -/
theorem mkWindows_ok (v1 v2 v3 : Value) (w : World) : Calls Try.prog 27 #[.agg #[v1, v2, v3]] w fun e w' => e = .returned (.func (.func 39) #[] #[.pointer (some ⟨w.heap.size, 0, none⟩)]) ∧ w' = w.alloc (.cells #[v1, v2, v3] 26) := by
  have hmf : ∀ (fn : Fn) (first cap : Array Value) (w : World), (Instr.makeFunc fn first cap).run Try.prog w = .ok (.func fn first cap) w := fun _ _ _ _ => rfl
  go_enter Try.func27, Try.ntmps27
  go_wp2
  go_ret
  exact ⟨rfl, rfl⟩
theorem mkFrames_ok (v1 v2 v3 : Value) (w : World) : Calls Try.prog 37 #[.agg #[v1, v2, v3]] w fun e w' => e = .returned (.func (.func 55) #[] #[.pointer (some ⟨w.heap.size, 0, none⟩)]) ∧ w' = w.alloc (.cells #[v1, v2, v3] 26) := by
  have hmf : ∀ (fn : Fn) (first cap : Array Value) (w : World), (Instr.makeFunc fn first cap).run Try.prog w = .ok (.func fn first cap) w := fun _ _ _ _ => rfl
  go_enter Try.func37, Try.ntmps37
  go_wp2
  go_ret
  exact ⟨rfl, rfl⟩
theorem mkLaidW_ok (gs : Nat) (lb : Array Value) (w : World) : Calls Try.prog 26 #[.func (.func gs) #[] lb] w fun e w' => e = .returned (.func (.func 38) #[] #[.pointer (some ⟨w.heap.size, 0, none⟩)]) ∧ w' = w.alloc (.cells #[.func (.func gs) #[] lb] 59) := by
  have hmf : ∀ (fn : Fn) (first cap : Array Value) (w : World), (Instr.makeFunc fn first cap).run Try.prog w = .ok (.func fn first cap) w := fun _ _ _ _ => rfl
  go_enter Try.func26, Try.ntmps26
  go_wp2
  go_ret
  exact ⟨rfl, rfl⟩
theorem mkLaidO_ok (gs : Nat) (lb : Array Value) (w : World) : Calls Try.prog 36 #[.func (.func gs) #[] lb] w fun e w' => e = .returned (.func (.func 54) #[] #[.pointer (some ⟨w.heap.size, 0, none⟩)]) ∧ w' = w.alloc (.cells #[.func (.func gs) #[] lb] 69) := by
  have hmf : ∀ (fn : Fn) (first cap : Array Value) (w : World), (Instr.makeFunc fn first cap).run Try.prog w = .ok (.func fn first cap) w := fun _ _ _ _ => rfl
  go_enter Try.func36, Try.ntmps36
  go_wp2
  go_ret
  exact ⟨rfl, rfl⟩

def WinRel (w0 W : World) (J : List WinE → World → Prop) (S : List Row) (n : Nat) (i : Value) (wr : World) : Prop := ∃ j : Nat, i = .int .i64 (j : Int) ∧ j ≤ n ∧ Below w0.heap.size w0 wr ∧ W.heap.size ≤ wr.heap.size ∧ J (winN S j) wr
set_option maxHeartbeats 2000000 in
theorem windows_in (b n c2 : Nat) (a2 : Option Addr) (v1 v3 : Value) (C : Cf) (hn : n = C.2.1.length) (w0 w : World) (h : CfAt w0 v1 (.slice a2 n c2) v3 C) (hb0 : Below w0.heap.size w0 w) (hx : CBox w b v1 (.slice a2 n c2) v3) (K : Nat → Prop) (hK : ∀ k, k < w0.heap.size → K k) :
    Seq Try.prog 39 #[.pointer (some ⟨b, 0, none⟩)] encW (winL C) K w := by
  intro l J Jx W hW hJ hJx hY h0
  obtain ⟨P, S, H⟩ := C
  simp only at hn
  have e1 := (hx.below hW).c1
  have hsz : w0.heap.size ≤ W.heap.size := Nat.le_trans hb0.size hW.size
  have B0 := Lib.hid (hb0.trans (hW.mono hb0.size))
  have HC := Lib.hid h
  have HN := Lib.hid hn
  have HL : Hid (winL (P, S, H) = winN S n) := Lib.hid (by rw [hn]; rfl)
  have ht : n ≤ 1000 := by obtain ⟨_, _, _, ht, _⟩ := h.ws; rw [hn]; exact ht
  clear hb0 hW h hx hn
  refine (callsIn_wide (n := 5)).1 ?_
  refine callsIn_of_wp Try.func39 rfl trivial ?_ rfl
  simp only [Try.ntmps39, List.size_toArray, List.length_cons, List.length_nil, Nat.reduceAdd, Nat.reduceSub, Array.replicate_succ, Array.replicate_zero, List.push_toArray, List.append_toArray, List.nil_append, List.cons_append]
  gi_wp2
  gi_loopw [8] (fun i wr => WinRel w0 W J S n i wr) (fun i _ => (n - (intOf i).toNat))
  case atStart => exact ⟨0, rfl, Nat.zero_le _, B0.out, Nat.le_refl _, h0⟩
  case round =>
    obtain ⟨j, rfl, hj, hB, hz, hJs⟩ := hrel
    have KB := Lib.hid hB
    clear hB e1
    by_cases hlt : j < n
    · obtain ⟨hmW, bb, o, x, y, rfl, hbl, hrow, g0, g1⟩ := (show RowsAt 2 w0 (.slice a2 n c2) S from HC.out.ws).two KB.out j hlt
      have hx2 : winAt S j = ((j : Int), y) := by unfold winAt; rw [hrow]; rfl
      have hpre : winN S j ++ [((j : Int), y)] <+: winL (P, S, H) := by rw [HL.out, ← hx2, ← winN_succ]; exact winN_pre S (by omega)
      obtain ⟨fn, tmps, assign, body, hy, hR⟩ := hY (winN S j) ((j : Int), y) (wr.alloc (.cells #[.int .i64 x, .int .i64 y] 47)) 4 (hJ _ _ _ hJs ((Below.refl _ _).alloc hz _)) (by simp; omega) hpre
      dsimp only [encW] at hy
      have X2 := Lib.hid hx2
      have PRE := Lib.hid hpre
      have HR := Lib.hid hR
      clear hmW hrow hx2 hpre hR
      gi_wp2
      refine HR.out.mono ?_
      rintro e W3 ⟨hk, ⟨rfl, hJ3⟩ | ⟨rfl, hJ3⟩⟩
      · have K3 := Lib.hid hk
        clear hk
        gi_wp2
        go_roundw
        case rel =>
          refine ⟨j + 1, by go_num, by omega, (KB.out.alloc (by have := KB.out.size; omega) _).trans (K3.out.below (by simp; omega) hK), by have := K3.out.size; simp at this; omega, ?_⟩
          rw [winN_succ, X2.out]; exact hJ3
        case measure => simp [intOf]; omega
      · gi_wp2
        refine bodyPost_ret (results_none rfl _ _ _) rfl ?_
        exact ⟨⟨_, rfl⟩, Or.inr ⟨_, PRE.out, hJ3⟩⟩
    · obtain rfl : j = n := by omega
      gi_wp2
      go_end0
      exact ⟨⟨_, rfl⟩, Or.inl (by rw [HL.out]; exact hJs)⟩
theorem windows_seq (b : Nat) (v1 v2 v3 : Value) (C : Cf) (w0 w : World) (h : CfAt w0 v1 v2 v3 C) (hb0 : Below w0.heap.size w0 w) (hx : CBox w b v1 v2 v3) (K : Nat → Prop) (hK : ∀ k, k < w0.heap.size → K k) :
    Seq Try.prog 39 #[.pointer (some ⟨b, 0, none⟩)] encW (winL C) K w := by
  have hw := h.ws
  obtain ⟨a, c, rfl, _, _, _⟩ := hw
  exact windows_in b _ c a v1 v3 C rfl w0 w h hb0 hx K hK
end Go.Proofs.Ytepfljfaclakeaa
