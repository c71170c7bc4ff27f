/- Texts of mine, joined: C1 C2 C3 C4 C5 C6. What each says and under which conditions stands at its head, below. -/
import Derived.Test.YtnapodeiigkebaaIQ
import Derived.Recover
import Derived.Laws.Pointers
import Derived.Laws.EntriesVeiled
/- Configurations as lists of numbers; whether they may be; their frames; their bytes, and what bytes are one's. In lists alone. No condition. -/
namespace Go.Proofs.Ytnapodeiigkebaa
open Go.RowKit
set_option maxRecDepth 100000

abbrev Row := List Int
abbrev Cf := List Row × List Row × List Row
/-- Is a number from one to another? -/
def inB (n lo hi : Int) : Bool := decide (lo ≤ n) && decide (n ≤ hi)
def partB (T : Row) : Bool := inB (T.getD 0 0) 4 256 && inB (T.getD 1 0) 1 8
def winB (n : Nat) (T : Row) : Bool := inB (T.getD 0 0) 0 ((n : Int) - 1) && inB (T.getD 1 0) 1 255
def chanB (n : Nat) (T : Row) : Bool := inB (T.getD 0 0) 0 ((n : Int) - 1) && (inB (T.getD 1 0) 0 ((n : Int) - 1) && (!(T.getD 0 0 == T.getD 1 0) && (inB (T.getD 2 0) 1 8 && inB (T.getD 3 0) 1 8)))
def hasB (W : List Row) (i : Nat) : Bool := W.any fun T => T.getD 0 0 == (i : Int)
/-- May it be, but for its frames? -/
def mayB (C : Cf) : Bool := (inB C.1.length 1 8 && C.1.all partB) && ((inB C.2.1.length 1 32 && C.2.1.all (winB C.1.length)) && ((inB C.2.2.length 0 16 && C.2.2.all (chanB C.1.length)) && (List.range C.1.length).all (hasB C.2.1)))
def partF (T : Row) : Int := T.getD 0 0 + (T.getD 1 0 + 2) / 3
def chanF (T : Row) : Int := (T.getD 2 0 * (T.getD 3 0 + 1) + 31) / 32
def framesC (C : Cf) : Int := (C.1.map partF).sum + (C.2.2.map chanF).sum
/-- What Check answers. -/
def chk (C : Cf) : Int := if mayB C then (if framesC C ≤ 1024 then 0 else 3) else 2
def framesA (C : Cf) : Int := if mayB C then framesC C else 0

theorem inB_iff (n lo hi : Int) : inB n lo hi = true ↔ lo ≤ n ∧ n ≤ hi := by simp [inB]
theorem chk_zero {C : Cf} (h : chk C = 0) : mayB C = true ∧ framesC C ≤ 1024 := by
  unfold chk at h
  split at h
  · split at h
    · exact ⟨‹_›, ‹_›⟩
    · cases h
  · cases h
theorem chk_cases (C : Cf) : chk C = 0 ∨ chk C = 2 ∨ chk C = 3 := by
  unfold chk
  split
  · split <;> simp
  · simp
end Go.Proofs.Ytnapodeiigkebaa

/- The contracts of package conf's small functions: must, caught, within, pieces; lists of rows in memory. Conditions: named in the theorems. -/
namespace Go.Proofs.Ytnapodeiigkebaa
open Go.RowKit
set_option maxRecDepth 100000

/-- It left by panic, with an error. -/
abbrev badE (n : Int) : Ending := .panicked [{ v := .iface 31 (.int .i64 n), recovered := false }]
abbrev okRet : Ending := .returned (.tuple #[])
/-- It came back, or left with an error. -/
def endE (b : Bool) (n : Int) : Ending := if b then okRet else badE n
/-- It came back, if the error is none. -/
def endN (n : Int) : Ending := if n = 0 then okRet else badE n
theorem endE_true (n : Int) : endE true n = okRet := rfl
theorem must_yes (n : Int) (w : World) : Calls Try.prog 75 #[.bool true, .int .i64 n] w fun e w' => e = okRet ∧ w = w' := by
  go_enter Try.func75, Try.ntmps75
  go_wp2
  go_end0
  exact ⟨rfl, rfl⟩
theorem must_no (n : Int) (w : World) : Calls Try.prog 75 #[.bool false, .int .i64 n] w fun e w' => e = badE n ∧ w = w' := by
  go_enter Try.func75, Try.ntmps75
  go_wp2
  exact ⟨rfl, rfl, rfl⟩
theorem within_ok (n lo hi : Int) (w : World) : Calls Try.prog 77 #[.int .i64 n, .int .i64 lo, .int .i64 hi] w fun e w' => e = .returned (.bool (inB n lo hi)) ∧ w = w' := by
  unfold inB
  by_cases h : lo ≤ n
  · have h1 : decide (lo ≤ n) = true := decide_eq_true h
    rw [h1, Bool.true_and]
    clear h1
    go_enter Try.func77, Try.ntmps77
    go_wp2
    go_ret
    exact ⟨rfl, rfl⟩
  · have h1 : decide (lo ≤ n) = false := decide_eq_false h
    rw [h1, Bool.false_and]
    clear h1
    go_enter Try.func77, Try.ntmps77
    go_wp2
    go_ret
    exact ⟨rfl, rfl⟩
theorem pieces_ok (n k : Int) (h0 : 0 ≤ n) (h1 : n ≤ 1000000) (h2 : 1 ≤ k) (h3 : k ≤ 1000) (w : World) : Calls Try.prog 86 #[.int .i64 n, .int .i64 k] w fun e w' => e = .returned (.int .i64 ((n + k - 1) / k)) ∧ w = w' := by
  have hd : (n + k - 1).tdiv k = (n + k - 1) / k := Int.tdiv_eq_ediv_of_nonneg (by omega)
  have hk : ¬ k = 0 := by omega
  have b1 : 0 ≤ (n + k - 1) / k := Int.ediv_nonneg (by omega) (by omega)
  have b2 : (n + k - 1) / k ≤ n + k - 1 := Int.ediv_le_self _ (by omega)
  generalize (n + k - 1) / k = q at *
  go_enter Try.func86, Try.ntmps86
  go_wp2
  go_ret
  exact ⟨rfl, rfl⟩

theorem assert_err (n : Int) (w : World) : (Instr.typeAssert (.iface 31 (.int .i64 n)) 20 31 false).run Try.prog w = .ok (.int .i64 n) w := by kernel_rfl
theorem catch_panicking (p : Addr) (n : Int) (x : Value) (w : World) (hc : w.cell? p = some x) (hz : w.frozen? p = false) :
    CallsD Try.prog 74 #[.pointer (some p)] (.panicking [{ v := .iface 31 (.int .i64 n), recovered := false }]) w fun e u' w' =>
      e = okRet ∧ u' = .panicking [{ v := .iface 31 (.int .i64 n), recovered := true }] ∧ w' = w.setCell p (.int .i64 n) := by
  refine callsD_of_wpS Try.func74 rfl fun c₀ cs hu => ?_
  apply wpS_seq
  apply wpS_region
  simp [wpOpsS, go_sem, recoverD, hu, Try.ntmps74, Exit.thenS]
  apply wpS_seq
  apply wpS_region
  simp [wpOpsS, go_sem, Exit.thenS]
  refine wpS_cond (t := true) (by simp [Act.eval, Array.replicate]) ?_
  simp only [if_true]
  apply wpS_region
  simp [wpOpsS, go_sem, assert_err, hc, hz, bodyPostS, results, Try.results74]
theorem catch_idle (p : Addr) (w : World) : CallsD Try.prog 74 #[.pointer (some p)] .returning w fun e u' w' => e = okRet ∧ u' = .returning ∧ w' = w := by
  refine callsD_of_wpS Try.func74 rfl fun c₀ cs hu => ?_
  apply wpS_seq
  apply wpS_region
  simp [wpOpsS, go_sem, recoverD, hu, Try.ntmps74, Exit.thenS]
  apply wpS_seq
  apply wpS_region
  simp [wpOpsS, go_sem, Exit.thenS]
  refine wpS_cond (t := false) (by simp [Act.eval, Array.replicate]) ?_
  simp only [Bool.false_eq_true, if_false]
  refine wpS_of_wp (wp_skip ?_)
  cases c₀
  simp_all [bodyPostS, results, Try.results74]

theorem cell_set_same (w : World) (a : Addr) (u v : Value) (h : w.cell? a = some u) : (w.setCell a v).cell? a = some v := World.cell?_setCell_same' w a v (by rw [h]; rfl)
/-- What is done is done in a world with a variable more: it tells the error. -/
theorem caught_ok (k : Nat) (caps : Array Value) (hent : ∀ (args : Array Value) (W : World), (callFunc k args).run Try.prog W = .ok (.enter k args) W) (n : Int) (w : World) (Q : World → Prop)
    (hdo : Calls Try.prog k caps (w.alloc (.cells #[.int .i64 0] 31)) fun e w' => e = endN n ∧ Q w')
    (hbox : ∀ w', Q w' → ∃ x, w'.heap[w.heap.size]? = some (.cells #[.int .i64 x] 31 (0, 0))) :
    Calls Try.prog 49 #[.func (.func k) #[] caps] w fun e w' => e = .returned (.int .i64 n) ∧ ∃ w1, Q w1 ∧ w' = w1.setCell ⟨w.heap.size, 0, none⟩ (.int .i64 n) := by
  have hmf : ∀ (fn : Fn) (first cap : Array Value) (w : World), (Instr.makeFunc fn first cap).run Try.prog w = .ok (.func fn first cap) w := fun _ _ _ _ => rfl
  have HD := Lib.hid hdo
  have HB := Lib.hid hbox
  clear hdo hbox
  go_enter_defers Try.func49, Try.ntmps49
  go_wp2_with fail
  refine HD.out.mono ?_
  rintro e w1 ⟨rfl, hq⟩
  obtain ⟨x, hx⟩ := HB.out w1 hq
  have HQ := Lib.hid hq
  clear hq
  have c0 : w1.cell? ⟨w.heap.size, 0, none⟩ = some (.int .i64 x) := by rw [cell_of_row w1 _ _ _ _ _ hx]; rfl
  have f0 : w1.frozen? ⟨w.heap.size, 0, none⟩ = false := frozen_of_row w1 _ 0 _ _ hx
  by_cases hn : n = 0
  · subst hn
    rw [show endN 0 = okRet from rfl]
    go_wp2
    refine leaves_cons (f := 74) (args := #[.pointer (some ⟨w.heap.size, 0, none⟩)]) (by simp) (by simp [go_sem]) ?_
    refine (catch_idle ⟨w.heap.size, 0, none⟩ _).mono ?_
    rintro e u' w'' ⟨rfl, rfl, rfl⟩
    have c1 := cell_set_same w1 _ _ (.int .i64 0) c0
    simp [Leaves, settle, results, Try.results49, go_sem, c1]
    exact ⟨w1, HQ.out, rfl⟩
  · rw [show endN n = badE n from by simp [endN, hn]]
    go_wp2
    refine leaves_cons (f := 74) (args := #[.pointer (some ⟨w.heap.size, 0, none⟩)]) (by simp) (by simp [go_sem]) ?_
    refine (catch_panicking ⟨w.heap.size, 0, none⟩ n _ _ c0 f0).mono ?_
    rintro e u' w'' ⟨rfl, rfl, rfl⟩
    have c1 := cell_set_same w1 _ _ (.int .i64 n) c0
    simp [Leaves, settle, results, Try.results49, go_sem, c1]
    exact ⟨w1, HQ.out, rfl⟩
end Go.Proofs.Ytnapodeiigkebaa

/- The contracts of package conf's generic askAll, at its three types, and of slices.ContainsFunc at windows. Conditions: the rows lie in memory; what is asked of each has a contract. Written by gen/gen_c3.py. -/
namespace Go.Proofs.Ytnapodeiigkebaa
open Go.RowKit
set_option maxRecDepth 100000

/-- A slice of rows of k numbers. -/
def RowsAt (k : Nat) (w : World) (v : Value) (S : List Row) : Prop := ∃ a c, v = .slice a S.length c ∧ S.length ≤ 1000 ∧ (∀ T ∈ S, T.length = k) ∧ (S = [] ∨ ∃ b o, a = some ⟨b, o, none⟩ ∧ b < w.heap.size ∧
  ∀ i, i < S.length → ∀ j, j < k → w.cell? ⟨b, o + i * k + j, none⟩ = some (.int .i64 ((S.getD i []).getD j 0)))
theorem RowsAt.below {k : Nat} {w w' : World} {v : Value} {S : List Row} (h : RowsAt k w v S) (hb : Below w.heap.size w w') : RowsAt k w' v S := by
  obtain ⟨a, c, rfl, ht, hT, hS⟩ := h
  refine ⟨a, c, rfl, ht, hT, ?_⟩
  rcases hS with hS | ⟨b, o, rfl, hlt, hc⟩
  · exact Or.inl hS
  · exact Or.inr ⟨b, o, rfl, Nat.lt_of_lt_of_le hlt hb.size, fun i hi j hj => (hb.cell (p := ⟨b, o + i * k + j, none⟩) hlt).trans (hc i hi j hj)⟩
theorem getD_mem {S : List Row} {i : Nat} (h : i < S.length) : S.getD i [] ∈ S := by
  rw [List.getD_eq_getElem?_getD, List.getElem?_eq_getElem h]; exact List.getElem_mem _
theorem takeRows_all (p : Row → Bool) (S : List Row) (j : Nat) (h : j < S.length) (h1 : (S.take j).all p = true) (h2 : p (S.getD j []) = true) : (S.take (j + 1)).all p = true := by
  have e : S.getD j [] = S[j] := by simp [List.getD_eq_getElem?_getD, h]
  rw [List.take_succ_eq_append_getElem h, List.all_append, h1, ← e]
  simpa using h2
theorem not_all (p : Row → Bool) (S : List Row) (j : Nat) (h : j < S.length) (h2 : p (S.getD j []) = false) : S.all p = false := by
  cases ha : S.all p with
  | false => rfl
  | true => rw [List.all_eq_true] at ha; rw [ha _ (getD_mem h)] at h2; cases h2
theorem take_any (p : Row → Bool) (S : List Row) (j : Nat) (h : j < S.length) (h1 : (S.take j).any p = false) (h2 : p (S.getD j []) = false) : (S.take (j + 1)).any p = false := by
  have e : S.getD j [] = S[j] := by simp [List.getD_eq_getElem?_getD, h]
  rw [List.take_succ_eq_append_getElem h, List.any_append, h1, ← e]
  simpa using h2
theorem has_any (p : Row → Bool) (S : List Row) (j : Nat) (h : j < S.length) (h2 : p (S.getD j []) = true) : S.any p = true := List.any_eq_true.2 ⟨_, getD_mem h, h2⟩
theorem two_row {T : Row} (h : T.length = 2) : ∃ x y, T = [x, y] := by
  match T, h with
  | [x, y], _ => exact ⟨x, y, rfl⟩
theorem four_row {T : Row} (h : T.length = 4) : ∃ x y z t, T = [x, y, z, t] := by
  match T, h with
  | [x, y, z, t], _ => exact ⟨x, y, z, t, rfl⟩
theorem two_cells {w : World} {S : List Row} {b o : Nat} (hT : ∀ T ∈ S, T.length = 2) (hc : ∀ i, i < S.length → ∀ j, j < 2 → w.cell? ⟨b, o + i * 2 + j, none⟩ = some (.int .i64 ((S.getD i []).getD j 0))) (i : Nat) (hi : i < S.length) :
    ∃ x y, S.getD i [] = [x, y] ∧ w.cell? ⟨b, o + i * 2, none⟩ = some (.int .i64 x) ∧ w.cell? ⟨b, o + i * 2 + 1, none⟩ = some (.int .i64 y) := by
  obtain ⟨x, y, e⟩ := two_row (hT _ (getD_mem hi))
  have h0 := hc i hi 0 (by decide)
  have h1 := hc i hi 1 (by decide)
  rw [e] at h0 h1
  exact ⟨x, y, e, h0, h1⟩
theorem four_cells {w : World} {S : List Row} {b o : Nat} (hT : ∀ T ∈ S, T.length = 4) (hc : ∀ i, i < S.length → ∀ j, j < 4 → w.cell? ⟨b, o + i * 4 + j, none⟩ = some (.int .i64 ((S.getD i []).getD j 0))) (i : Nat) (hi : i < S.length) :
    ∃ x y z t, S.getD i [] = [x, y, z, t] ∧ w.cell? ⟨b, o + i * 4, none⟩ = some (.int .i64 x) ∧ w.cell? ⟨b, o + i * 4 + 1, none⟩ = some (.int .i64 y) ∧ w.cell? ⟨b, o + i * 4 + 2, none⟩ = some (.int .i64 z) ∧ w.cell? ⟨b, o + i * 4 + 3, none⟩ = some (.int .i64 t) := by
  obtain ⟨x, y, z, t, e⟩ := four_row (hT _ (getD_mem hi))
  have h0 := hc i hi 0 (by decide)
  have h1 := hc i hi 1 (by decide)
  have h2 := hc i hi 2 (by decide)
  have h3 := hc i hi 3 (by decide)
  rw [e] at h0 h1 h2 h3
  exact ⟨x, y, z, t, e, h0, h1, h2, h3⟩
def AskRel (w : World) (p : Row → Bool) (S : List Row) (n : Nat) (i : Value) (wr : World) : Prop := ∃ j : Nat, i = .int .i64 (j : Int) ∧ j ≤ n ∧ Below w.heap.size w wr ∧ (S.take j).all p = true

set_option maxHeartbeats 1000000 in
theorem askAll_part (g : Nat) (caps : Array Value) (hent : ∀ (args : Array Value) (W : World), (callFunc g args).run Try.prog W = .ok (.enter g args) W) (p : Row → Bool) (lo hi : Int) (v : Value) (S : List Row) (w : World) (h : RowsAt 2 w v S)
    (hp : ∀ (W : World) (x y : Int), Below w.heap.size w W → Calls Try.prog g (#[.agg #[.int .i64 x, .int .i64 y]] ++ caps) W fun e w' => e = .returned (.bool (p [x, y])) ∧ Below W.heap.size W w') :
    Calls Try.prog 78 #[v, .int .i64 lo, .int .i64 hi, .func (.func g) #[] caps] w fun e w' => e = endE (inB S.length lo hi && S.all p) 2 ∧ Below w.heap.size w w' := by
  obtain ⟨a, c, rfl, ht, hT, hS⟩ := h
  obtain ⟨n, hn⟩ : ∃ n, n = S.length := ⟨_, rfl⟩
  rw [← hn] at ht ⊢
  have HN := Lib.hid hn
  have HS := Lib.hid hS
  have HT := Lib.hid hT
  have HP := Lib.hid hp
  clear hn hS hT hp
  go_enter Try.func78, Try.ntmps78
  go_wp2_with fail
  refine (within_ok _ _ _ _).mono ?_
  rintro e w1 ⟨rfl, rfl⟩
  cases hb : inB (n : Int) lo hi with
  | false =>
    go_wp2_with fail
    refine (must_no _ _).mono ?_
    rintro e w1 ⟨rfl, rfl⟩
    exact ⟨rfl, by rw [hb]; rfl, Below.refl _ _⟩
  | true =>
    go_wp2_with fail
    refine (must_yes _ _).mono ?_
    rintro e w1 ⟨rfl, rfl⟩
    go_wp2_with fail
    go_loopw [18] (fun i wr => AskRel w p S n i wr) (fun i _ => (n - (intOf i).toNat))
    case atStart => exact ⟨0, rfl, Nat.zero_le _, Below.refl _ _, by simp⟩
    case round =>
      obtain ⟨j, rfl, hj, hB, hall⟩ := hrel
      have B := Lib.hid hB
      have ALL := Lib.hid hall
      clear hB hall
      by_cases hlt' : j < n
      · obtain ⟨b, o, rfl, hlt, hc⟩ := HS.out.resolve_left (by intro e; have := HN.out; rw [e] at this; simp at this; omega)
        obtain ⟨x, y, hrow, c0, c1⟩ := two_cells HT.out hc j (by have := HN.out; omega)
        have d0 := (B.out.cell (p := ⟨b, o + j * 2, none⟩) hlt).trans c0
        have d1 := (B.out.cell (p := ⟨b, o + j * 2 + 1, none⟩) hlt).trans c1
        have ROW := Lib.hid hrow
        clear hc c0 c1 hrow
        go_wp2_with fail
        refine (HP.out _ x y (B.out.alloc B.out.size _)).mono ?_
        rintro e w1 ⟨rfl, hb1⟩
        have B1 := Lib.hid ((B.out.alloc B.out.size (.cells #[.int .i64 x, .int .i64 y] 80)).trans (hb1.mono (by have := B.out.size; simp; omega)))
        clear hb1
        cases hpr : p [x, y] with
        | false =>
          go_wp2_with fail
          refine (must_no _ _).mono ?_
          rintro e w2 ⟨rfl, rfl⟩
          exact ⟨rfl, by rw [hb, not_all p S j (by have := HN.out; omega) (by rw [ROW.out]; exact hpr)]; rfl, B1.out⟩
        | true =>
          have ALL1 := Lib.hid (takeRows_all p S j (by have := HN.out; omega) ALL.out (by rw [ROW.out]; exact hpr))
          go_wp2_with fail
          refine (must_yes _ _).mono ?_
          rintro e w2 ⟨rfl, rfl⟩
          go_wp2
          go_roundw
          case rel => exact ⟨j + 1, by go_num, by omega, B1.out, ALL1.out⟩
          case measure => simp [intOf]; omega
      · obtain rfl : j = n := by omega
        have e : S.all p = true := by have := ALL.out; rwa [HN.out, List.take_length] at this
        clear hlt'
        go_wp2
        go_end0
        exact ⟨by rw [hb, e]; rfl, B.out⟩

set_option maxHeartbeats 1000000 in
theorem askAll_win (g : Nat) (caps : Array Value) (hent : ∀ (args : Array Value) (W : World), (callFunc g args).run Try.prog W = .ok (.enter g args) W) (p : Row → Bool) (lo hi : Int) (v : Value) (S : List Row) (w : World) (h : RowsAt 2 w v S)
    (hp : ∀ (W : World) (x y : Int), Below w.heap.size w W → Calls Try.prog g (#[.agg #[.int .i64 x, .int .i64 y]] ++ caps) W fun e w' => e = .returned (.bool (p [x, y])) ∧ Below W.heap.size W w') :
    Calls Try.prog 80 #[v, .int .i64 lo, .int .i64 hi, .func (.func g) #[] caps] w fun e w' => e = endE (inB S.length lo hi && S.all p) 2 ∧ Below w.heap.size w w' := by
  obtain ⟨a, c, rfl, ht, hT, hS⟩ := h
  obtain ⟨n, hn⟩ : ∃ n, n = S.length := ⟨_, rfl⟩
  rw [← hn] at ht ⊢
  have HN := Lib.hid hn
  have HS := Lib.hid hS
  have HT := Lib.hid hT
  have HP := Lib.hid hp
  clear hn hS hT hp
  go_enter Try.func80, Try.ntmps80
  go_wp2_with fail
  refine (within_ok _ _ _ _).mono ?_
  rintro e w1 ⟨rfl, rfl⟩
  cases hb : inB (n : Int) lo hi with
  | false =>
    go_wp2_with fail
    refine (must_no _ _).mono ?_
    rintro e w1 ⟨rfl, rfl⟩
    exact ⟨rfl, by rw [hb]; rfl, Below.refl _ _⟩
  | true =>
    go_wp2_with fail
    refine (must_yes _ _).mono ?_
    rintro e w1 ⟨rfl, rfl⟩
    go_wp2_with fail
    go_loopw [18] (fun i wr => AskRel w p S n i wr) (fun i _ => (n - (intOf i).toNat))
    case atStart => exact ⟨0, rfl, Nat.zero_le _, Below.refl _ _, by simp⟩
    case round =>
      obtain ⟨j, rfl, hj, hB, hall⟩ := hrel
      have B := Lib.hid hB
      have ALL := Lib.hid hall
      clear hB hall
      by_cases hlt' : j < n
      · obtain ⟨b, o, rfl, hlt, hc⟩ := HS.out.resolve_left (by intro e; have := HN.out; rw [e] at this; simp at this; omega)
        obtain ⟨x, y, hrow, c0, c1⟩ := two_cells HT.out hc j (by have := HN.out; omega)
        have d0 := (B.out.cell (p := ⟨b, o + j * 2, none⟩) hlt).trans c0
        have d1 := (B.out.cell (p := ⟨b, o + j * 2 + 1, none⟩) hlt).trans c1
        have ROW := Lib.hid hrow
        clear hc c0 c1 hrow
        go_wp2_with fail
        refine (HP.out _ x y (B.out.alloc B.out.size _)).mono ?_
        rintro e w1 ⟨rfl, hb1⟩
        have B1 := Lib.hid ((B.out.alloc B.out.size (.cells #[.int .i64 x, .int .i64 y] 112)).trans (hb1.mono (by have := B.out.size; simp; omega)))
        clear hb1
        cases hpr : p [x, y] with
        | false =>
          go_wp2_with fail
          refine (must_no _ _).mono ?_
          rintro e w2 ⟨rfl, rfl⟩
          exact ⟨rfl, by rw [hb, not_all p S j (by have := HN.out; omega) (by rw [ROW.out]; exact hpr)]; rfl, B1.out⟩
        | true =>
          have ALL1 := Lib.hid (takeRows_all p S j (by have := HN.out; omega) ALL.out (by rw [ROW.out]; exact hpr))
          go_wp2_with fail
          refine (must_yes _ _).mono ?_
          rintro e w2 ⟨rfl, rfl⟩
          go_wp2
          go_roundw
          case rel => exact ⟨j + 1, by go_num, by omega, B1.out, ALL1.out⟩
          case measure => simp [intOf]; omega
      · obtain rfl : j = n := by omega
        have e : S.all p = true := by have := ALL.out; rwa [HN.out, List.take_length] at this
        clear hlt'
        go_wp2
        go_end0
        exact ⟨by rw [hb, e]; rfl, B.out⟩

set_option maxHeartbeats 1000000 in
theorem askAll_chan (g : Nat) (caps : Array Value) (hent : ∀ (args : Array Value) (W : World), (callFunc g args).run Try.prog W = .ok (.enter g args) W) (p : Row → Bool) (lo hi : Int) (v : Value) (S : List Row) (w : World) (h : RowsAt 4 w v S)
    (hp : ∀ (W : World) (x y z t : Int), Below w.heap.size w W → Calls Try.prog g (#[.agg #[.int .i64 x, .int .i64 y, .int .i64 z, .int .i64 t]] ++ caps) W fun e w' => e = .returned (.bool (p [x, y, z, t])) ∧ Below W.heap.size W w') :
    Calls Try.prog 82 #[v, .int .i64 lo, .int .i64 hi, .func (.func g) #[] caps] w fun e w' => e = endE (inB S.length lo hi && S.all p) 2 ∧ Below w.heap.size w w' := by
  obtain ⟨a, c, rfl, ht, hT, hS⟩ := h
  obtain ⟨n, hn⟩ : ∃ n, n = S.length := ⟨_, rfl⟩
  rw [← hn] at ht ⊢
  have HN := Lib.hid hn
  have HS := Lib.hid hS
  have HT := Lib.hid hT
  have HP := Lib.hid hp
  clear hn hS hT hp
  go_enter Try.func82, Try.ntmps82
  go_wp2_with fail
  refine (within_ok _ _ _ _).mono ?_
  rintro e w1 ⟨rfl, rfl⟩
  cases hb : inB (n : Int) lo hi with
  | false =>
    go_wp2_with fail
    refine (must_no _ _).mono ?_
    rintro e w1 ⟨rfl, rfl⟩
    exact ⟨rfl, by rw [hb]; rfl, Below.refl _ _⟩
  | true =>
    go_wp2_with fail
    refine (must_yes _ _).mono ?_
    rintro e w1 ⟨rfl, rfl⟩
    go_wp2_with fail
    go_loopw [18] (fun i wr => AskRel w p S n i wr) (fun i _ => (n - (intOf i).toNat))
    case atStart => exact ⟨0, rfl, Nat.zero_le _, Below.refl _ _, by simp⟩
    case round =>
      obtain ⟨j, rfl, hj, hB, hall⟩ := hrel
      have B := Lib.hid hB
      have ALL := Lib.hid hall
      clear hB hall
      by_cases hlt' : j < n
      · obtain ⟨b, o, rfl, hlt, hc⟩ := HS.out.resolve_left (by intro e; have := HN.out; rw [e] at this; simp at this; omega)
        obtain ⟨x, y, z, t, hrow, c0, c1, c2, c3⟩ := four_cells HT.out hc j (by have := HN.out; omega)
        have d0 := (B.out.cell (p := ⟨b, o + j * 4, none⟩) hlt).trans c0
        have d1 := (B.out.cell (p := ⟨b, o + j * 4 + 1, none⟩) hlt).trans c1
        have d2 := (B.out.cell (p := ⟨b, o + j * 4 + 2, none⟩) hlt).trans c2
        have d3 := (B.out.cell (p := ⟨b, o + j * 4 + 3, none⟩) hlt).trans c3
        have ROW := Lib.hid hrow
        clear hc c0 c1 c2 c3 hrow
        go_wp2_with fail
        refine (HP.out _ x y z t (B.out.alloc B.out.size _)).mono ?_
        rintro e w1 ⟨rfl, hb1⟩
        have B1 := Lib.hid ((B.out.alloc B.out.size (.cells #[.int .i64 x, .int .i64 y, .int .i64 z, .int .i64 t] 47)).trans (hb1.mono (by have := B.out.size; simp; omega)))
        clear hb1
        cases hpr : p [x, y, z, t] with
        | false =>
          go_wp2_with fail
          refine (must_no _ _).mono ?_
          rintro e w2 ⟨rfl, rfl⟩
          exact ⟨rfl, by rw [hb, not_all p S j (by have := HN.out; omega) (by rw [ROW.out]; exact hpr)]; rfl, B1.out⟩
        | true =>
          have ALL1 := Lib.hid (takeRows_all p S j (by have := HN.out; omega) ALL.out (by rw [ROW.out]; exact hpr))
          go_wp2_with fail
          refine (must_yes _ _).mono ?_
          rintro e w2 ⟨rfl, rfl⟩
          go_wp2
          go_roundw
          case rel => exact ⟨j + 1, by go_num, by omega, B1.out, ALL1.out⟩
          case measure => simp [intOf]; omega
      · obtain rfl : j = n := by omega
        have e : S.all p = true := by have := ALL.out; rwa [HN.out, List.take_length] at this
        clear hlt'
        go_wp2
        go_end0
        exact ⟨by rw [hb, e]; rfl, B.out⟩


def IdxRel (w : World) (p : Row → Bool) (S : List Row) (n : Nat) (i : Value) (wr : World) : Prop := ∃ j : Nat, i = .int .i64 (j : Int) ∧ j ≤ n ∧ Below w.heap.size w wr ∧ (S.take j).any p = false
set_option maxHeartbeats 1000000 in
theorem indexFunc_win (g : Nat) (caps : Array Value) (hent : ∀ (args : Array Value) (W : World), (callFunc g args).run Try.prog W = .ok (.enter g args) W) (p : Row → Bool) (v : Value) (S : List Row) (w : World) (h : RowsAt 2 w v S)
    (hp : ∀ (W : World) (x y : Int), Below w.heap.size w W → Calls Try.prog g (#[.agg #[.int .i64 x, .int .i64 y]] ++ caps) W fun e w' => e = .returned (.bool (p [x, y])) ∧ Below W.heap.size W w') :
    Calls Try.prog 95 #[v, .func (.func g) #[] caps] w fun e w' => ∃ r : Int, e = .returned (.int .i64 r) ∧ decide (0 ≤ r) = S.any p ∧ Below w.heap.size w w' := by
  obtain ⟨a, c, rfl, ht, hT, hS⟩ := h
  obtain ⟨n, hn⟩ : ∃ n, n = S.length := ⟨_, rfl⟩
  rw [← hn] at ht ⊢
  have HN := Lib.hid hn
  have HS := Lib.hid hS
  have HT := Lib.hid hT
  have HP := Lib.hid hp
  clear hn hS hT hp
  go_enter Try.func95, Try.ntmps95
  go_wp2_with fail
  go_loopw [8] (fun i wr => IdxRel w p S n i wr) (fun i _ => (n - (intOf i).toNat))
  case atStart => exact ⟨0, rfl, Nat.zero_le _, Below.refl _ _, by simp⟩
  case round =>
    obtain ⟨j, rfl, hj, hB, hall⟩ := hrel
    have B := Lib.hid hB
    have ALL := Lib.hid hall
    clear hB hall
    by_cases hlt' : j < n
    · obtain ⟨b, o, rfl, hlt, hc⟩ := HS.out.resolve_left (by intro e; have := HN.out; rw [e] at this; simp at this; omega)
      obtain ⟨x, y, hrow, c0, c1⟩ := two_cells HT.out hc j (by have := HN.out; omega)
      have d0 := (B.out.cell (p := ⟨b, o + j * 2, none⟩) hlt).trans c0
      have d1 := (B.out.cell (p := ⟨b, o + j * 2 + 1, none⟩) hlt).trans c1
      have ROW := Lib.hid hrow
      clear hc c0 c1 hrow
      go_wp2_with fail
      refine (HP.out _ x y B.out).mono ?_
      rintro e w1 ⟨rfl, hb1⟩
      have B1 := Lib.hid (B.out.trans (hb1.mono B.out.size))
      clear hb1
      cases hpr : p [x, y] with
      | false =>
        have ALL1 := Lib.hid (take_any p S j (by have := HN.out; omega) ALL.out (by rw [ROW.out]; exact hpr))
        go_wp2
        go_roundw
        case rel => exact ⟨j + 1, by go_num, by omega, B1.out, ALL1.out⟩
        case measure => simp [intOf]; omega
      | true =>
        have e : S.any p = true := has_any p S j (by have := HN.out; omega) (by rw [ROW.out]; exact hpr)
        go_wp2
        go_ret
        exact ⟨_, rfl, by rw [e]; simp, B1.out⟩
    · obtain rfl : j = n := by omega
      have e : S.any p = false := by have := ALL.out; rwa [HN.out, List.take_length] at this
      clear hlt'
      go_wp2
      go_ret
      exact ⟨_, rfl, by rw [e]; simp, B.out⟩
theorem containsFunc_win (g : Nat) (caps : Array Value) (hent : ∀ (args : Array Value) (W : World), (callFunc g args).run Try.prog W = .ok (.enter g args) W) (p : Row → Bool) (v : Value) (S : List Row) (w : World) (h : RowsAt 2 w v S)
    (hp : ∀ (W : World) (x y : Int), Below w.heap.size w W → Calls Try.prog g (#[.agg #[.int .i64 x, .int .i64 y]] ++ caps) W fun e w' => e = .returned (.bool (p [x, y])) ∧ Below W.heap.size W w') :
    Calls Try.prog 84 #[v, .func (.func g) #[] caps] w fun e w' => e = .returned (.bool (S.any p)) ∧ Below w.heap.size w w' := by
  have HX := Lib.hid (indexFunc_win g caps hent p v S w h hp)
  clear h hp
  go_enter Try.func84, Try.ntmps84
  go_wp2_with fail
  refine HX.out.mono ?_
  rintro e w1 ⟨r, rfl, hr, hb⟩
  have B := Lib.hid hb
  have HR := Lib.hid hr
  clear hb hr
  go_wp2
  go_ret
  exact ⟨by rw [← HR.out]; rfl, B.out⟩
end Go.Proofs.Ytnapodeiigkebaa

/- The contracts of package conf's ask: whether a configuration may be, but for its frames. Condition: its lists lie in memory. -/
namespace Go.Proofs.Ytnapodeiigkebaa
open Go.RowKit
set_option maxRecDepth 100000

/-- A configuration's lists. -/
structure CfAt (w : World) (v1 v2 v3 : Value) (C : Cf) : Prop where
  ps : RowsAt 2 w v1 C.1
  ws : RowsAt 2 w v2 C.2.1
  hs : RowsAt 4 w v3 C.2.2
theorem CfAt.below {w w' : World} {v1 v2 v3 : Value} {C : Cf} (h : CfAt w v1 v2 v3 C) (hb : Below w.heap.size w w') : CfAt w' v1 v2 v3 C := ⟨h.ps.below hb, h.ws.below hb, h.hs.below hb⟩
theorem isPart_ok (n : Int) (b np c : Nat) (a : Option Addr) (w : World) (hc : w.cell? ⟨b, 0, none⟩ = some (.slice a np c)) (hn : np ≤ 1000) :
    Calls Try.prog 76 #[.int .i64 n, .pointer (some ⟨b, 0, none⟩)] w fun e w' => e = .returned (.bool (inB n 0 ((np : Int) - 1))) ∧ w = w' := by
  go_enter Try.func76, Try.ntmps76
  go_wp2_with fail
  refine (within_ok _ _ _ _).mono ?_
  rintro e w1 ⟨rfl, rfl⟩
  go_wp2
  go_ret
  exact ⟨rfl, rfl⟩
theorem askPart_ok (x y : Int) (w : World) : Calls Try.prog 79 #[.agg #[.int .i64 x, .int .i64 y]] w fun e w' => e = .returned (.bool (partB [x, y])) ∧ Below w.heap.size w w' := by
  have hb := (Below.refl w.heap.size w).alloc (Nat.le_refl _) (.cells #[.int .i64 x, .int .i64 y] 80)
  have e : partB [x, y] = (inB x 4 256 && inB y 1 8) := rfl
  cases h1 : inB x 4 256
  all_goals
    go_enter Try.func79, Try.ntmps79
    go_wp2_with (go_at_call 77; refine (within_ok _ _ _ _).mono ?_; rintro e w' ⟨rfl, rfl⟩; try rw [h1])
    go_ret
    exact ⟨ret_bool (by rw [e, h1]; simp), hb⟩
theorem askWin_ok (x y : Int) (b f np c : Nat) (a : Option Addr) (w : World) (hf : w.cell? ⟨f, 0, none⟩ = some (.func (.func 76) #[] #[.pointer (some ⟨b, 0, none⟩)])) (hc : w.cell? ⟨b, 0, none⟩ = some (.slice a np c)) (hn : np ≤ 1000) :
    Calls Try.prog 81 #[.agg #[.int .i64 x, .int .i64 y], .pointer (some ⟨f, 0, none⟩)] w fun e w' => e = .returned (.bool (winB np [x, y])) ∧ Below w.heap.size w w' := by
  have hb := (Below.refl w.heap.size w).alloc (Nat.le_refl _) (.cells #[.int .i64 x, .int .i64 y] 112)
  have hc1 := (hb.cell (p := ⟨b, 0, none⟩) (block_lt_of_cell hc)).trans hc
  have hf1 := (hb.cell (p := ⟨f, 0, none⟩) (block_lt_of_cell hf)).trans hf
  have e : winB np [x, y] = (inB x 0 ((np : Int) - 1) && inB y 1 255) := rfl
  cases h1 : inB x 0 ((np : Int) - 1)
  all_goals
    have H1 := Lib.hid h1
    go_enter Try.func81, Try.ntmps81
    go_wp2_with (first | (go_at_call 76; refine (isPart_ok _ b np c a _ hc1 hn).mono ?_; rintro e w' ⟨rfl, rfl⟩; rw [H1.out]) | (go_at_call 77; refine (within_ok _ _ _ _).mono ?_; rintro e w' ⟨rfl, rfl⟩))
    go_ret
    exact ⟨ret_bool (by rw [e, H1.out]; simp), hb⟩
set_option maxHeartbeats 1000000 in
theorem askChan_ok (x y z t : Int) (b f np c : Nat) (a : Option Addr) (w : World) (hf : w.cell? ⟨f, 0, none⟩ = some (.func (.func 76) #[] #[.pointer (some ⟨b, 0, none⟩)])) (hc : w.cell? ⟨b, 0, none⟩ = some (.slice a np c)) (hn : np ≤ 1000) :
    Calls Try.prog 83 #[.agg #[.int .i64 x, .int .i64 y, .int .i64 z, .int .i64 t], .pointer (some ⟨f, 0, none⟩)] w fun e w' => e = .returned (.bool (chanB np [x, y, z, t])) ∧ Below w.heap.size w w' := by
  have hb := (Below.refl w.heap.size w).alloc (Nat.le_refl _) (.cells #[.int .i64 x, .int .i64 y, .int .i64 z, .int .i64 t] 47)
  have hc1 := (hb.cell (p := ⟨b, 0, none⟩) (block_lt_of_cell hc)).trans hc
  have hf1 := (hb.cell (p := ⟨f, 0, none⟩) (block_lt_of_cell hf)).trans hf
  have e : chanB np [x, y, z, t] = (inB x 0 ((np : Int) - 1) && (inB y 0 ((np : Int) - 1) && (!(x == y) && (inB z 1 8 && inB t 1 8)))) := rfl
  obtain ⟨r1, h1⟩ : ∃ r, r = inB x 0 ((np : Int) - 1) := ⟨_, rfl⟩
  obtain ⟨r2, h2⟩ : ∃ r, r = inB y 0 ((np : Int) - 1) := ⟨_, rfl⟩
  obtain ⟨r3, h3⟩ : ∃ r, r = (x == y) := ⟨_, rfl⟩
  obtain ⟨r4, h4⟩ : ∃ r, r = inB z 1 8 := ⟨_, rfl⟩
  obtain ⟨r5, h5⟩ : ∃ r, r = inB t 1 8 := ⟨_, rfl⟩
  have H1 := Lib.hid h1
  have H2 := Lib.hid h2
  have H4 := Lib.hid h4
  have H5 := Lib.hid h5
  have E : Hid (chanB np [x, y, z, t] = (r1 && (r2 && (!r3 && (r4 && r5))))) := Lib.hid (by rw [e, h1, h2, h3, h4, h5])
  have hne : (x != y) = !r3 := by rw [h3]; rfl
  clear h1 h2 h3 h4 h5 e
  have key : ∀ s : Bool, s = (r1 && (r2 && (!r3 && (r4 && r5)))) → Calls Try.prog 83 #[.agg #[.int .i64 x, .int .i64 y, .int .i64 z, .int .i64 t], .pointer (some ⟨f, 0, none⟩)] w fun e w' => e = .returned (.bool s) ∧ Below w.heap.size w w' := by
    intro s hs
    have HSS := Lib.hid hs
    clear hs E
    cases r1
    case' true => cases r2
    case' true.true => cases r3
    case' true.true.false => cases r4
    all_goals
      go_enter Try.func83, Try.ntmps83
      go_wp2_with (first
        | (go_at_call 76; refine (isPart_ok _ b np c a _ hc1 hn).mono ?_; rintro e w' ⟨rfl, rfl⟩; first | rw [← H1.out] | rw [← H2.out])
        | (go_at_call 77; refine (within_ok _ _ _ _).mono ?_; rintro e w' ⟨rfl, rfl⟩; first | rw [← H4.out] | rw [← H5.out]))
      go_ret
      exact ⟨by rw [HSS.out]; rfl, hb⟩
  exact key _ E.out
theorem askHas_ok (x y : Int) (i : Nat) (b : Nat) (w : World) (hc : w.cell? ⟨b, 0, none⟩ = some (.int .i64 (i : Int))) :
    Calls Try.prog 85 #[.agg #[.int .i64 x, .int .i64 y], .pointer (some ⟨b, 0, none⟩)] w fun e w' => e = .returned (.bool (([x, y] : Row).getD 0 0 == (i : Int))) ∧ Below w.heap.size w w' := by
  have hb := (Below.refl w.heap.size w).alloc (Nat.le_refl _) (.cells #[.int .i64 x, .int .i64 y] 112)
  have hc1 := (hb.cell (p := ⟨b, 0, none⟩) (block_lt_of_cell hc)).trans hc
  go_enter Try.func85, Try.ntmps85
  go_wp2
  go_ret
  exact ⟨rfl, hb⟩
end Go.Proofs.Ytnapodeiigkebaa

/- The contracts of package conf's ask, frames, askWhole, Check. Condition: the configuration's lists lie in memory. -/
namespace Go.Proofs.Ytnapodeiigkebaa
open Go.RowKit
set_option maxRecDepth 100000

/-- A configuration in a variable of its own. -/
def CBox (w : World) (b : Nat) (v1 v2 v3 : Value) : Prop := w.heap[b]? = some (.cells #[v1, v2, v3] 26 (0, 0))
theorem CBox.c0 {w : World} {b : Nat} {v1 v2 v3 : Value} (h : CBox w b v1 v2 v3) : w.cell? ⟨b, 0, none⟩ = some v1 := by rw [cell_of_row w b _ _ _ _ h]; rfl
theorem CBox.c1 {w : World} {b : Nat} {v1 v2 v3 : Value} (h : CBox w b v1 v2 v3) : w.cell? ⟨b, 1, none⟩ = some v2 := by rw [cell_of_row w b _ _ _ _ h]; rfl
theorem CBox.c2 {w : World} {b : Nat} {v1 v2 v3 : Value} (h : CBox w b v1 v2 v3) : w.cell? ⟨b, 2, none⟩ = some v3 := by rw [cell_of_row w b _ _ _ _ h]; rfl
theorem CBox.below {w w' : World} {b : Nat} {v1 v2 v3 : Value} (h : CBox w b v1 v2 v3) (hb : Below w.heap.size w w') : CBox w' b v1 v2 v3 := below_block hb h
theorem CBox.new (w : World) (v1 v2 v3 : Value) : CBox (w.alloc (.cells #[v1, v2, v3] 26)) w.heap.size v1 v2 v3 := heap_alloc_new w _
theorem range_all (p : Nat → Bool) (j : Nat) : (List.range (j + 1)).all p = ((List.range j).all p && p j) := by simp [List.range_succ]
theorem range_not (p : Nat → Bool) (j n : Nat) (h : j < n) (hp : p j = false) : (List.range n).all p = false := by
  cases ha : (List.range n).all p with
  | false => rfl
  | true => rw [List.all_eq_true] at ha; rw [ha j (by simp [h])] at hp; cases hp

def HasRel (w : World) (W : List Row) (n : Nat) (i : Value) (wr : World) : Prop := ∃ j : Nat, i = .int .i64 (j : Int) ∧ j ≤ n ∧ Below w.heap.size w wr ∧ (List.range j).all (hasB W) = true
set_option maxHeartbeats 2000000 in
theorem ask_in (a : Option Addr) (n c : Nat) (v2 v3 : Value) (P W H : List Row) (hn : n = P.length) (ht : n ≤ 1000) (w : World) (h : CfAt w (.slice a n c) v2 v3 (P, W, H)) : Calls Try.prog 53 #[.agg #[.slice a n c, v2, v3]] w fun e w' => e = endE (mayB (P, W, H)) 2 ∧ Below w.heap.size w w' := by
  have hmf : ∀ (fn : Fn) (first cap : Array Value) (w : World), (Instr.makeFunc fn first cap).run Try.prog w = .ok (.func fn first cap) w := fun _ _ _ _ => rfl
  obtain ⟨w1, hw1⟩ : ∃ w1, w1 = (w.alloc (.cells #[.slice a n c, v2, v3] 26)).alloc (.cells #[.func (.func 76) #[] #[.pointer (some ⟨w.heap.size, 0, none⟩)]] 130) := ⟨_, rfl⟩
  have hb1 : Below w.heap.size w w1 := by rw [hw1]; exact below_two w _ _
  have HX : CBox w1 w.heap.size (.slice a n c) v2 v3 := by
    rw [hw1]
    exact (CBox.new w _ _ _).below ((Below.refl _ _).alloc (Nat.le_refl _) _)
  have HF : w1.cell? ⟨w.heap.size + 1, 0, none⟩ = some (.func (.func 76) #[] #[.pointer (some ⟨w.heap.size, 0, none⟩)]) := by
    rw [hw1, cell_of_row _ _ _ _ _ _ (heap_alloc2_new w _ _)]; rfl
  have HC := Lib.hid (h.below hb1)
  have X1 := Lib.hid HX
  have F1 := Lib.hid HF
  have B1 := Lib.hid hb1
  have c1 := HX.c1
  have HN := Lib.hid hn
  have hm : mayB (P, W, H) = ((inB n 1 8 && P.all partB) && ((inB W.length 1 32 && W.all (winB n)) && ((inB H.length 0 16 && H.all (chanB n)) && (List.range n).all (hasB W)))) := by rw [hn]; rfl
  have HM := Lib.hid hm
  clear h hb1 HX HF hn hm
  go_enter Try.func53, Try.ntmps53
  go_wp2_with fail
  rw [← hw1]
  clear hw1
  refine (askAll_part 79 #[] (enters Try.func79 rfl rfl) partB 1 8 _ P w1 HC.out.ps (fun W x y _ => by simpa using askPart_ok x y W)).mono ?_
  rintro e w2 ⟨rfl, hb⟩
  have K2 := Lib.hid hb
  rw [← HN.out]
  cases hr1 : (inB (n : Int) 1 8 && P.all partB) with
  | false => exact ⟨rfl, by rw [HM.out, hr1]; rfl, B1.out.trans (K2.out.mono B1.out.size)⟩
  | true =>
    rw [endE_true]
    clear hb
    have c1 := (X1.out.below K2.out).c1
    have c2 := (X1.out.below K2.out).c2
    go_wp2_with fail
    refine (askAll_win 81 _ (enters Try.func81 rfl rfl) (winB n) 1 32 _ W w2 (HC.out.below K2.out).ws (fun W x y hW => by simpa using askWin_ok x y w.heap.size (w.heap.size + 1) n c a W ((((K2.out.trans (hW.mono K2.out.size)).cell (p := ⟨w.heap.size + 1, 0, none⟩) (block_lt_of_cell F1.out))).trans F1.out) (X1.out.below (K2.out.trans (hW.mono K2.out.size))).c0 ht)).mono ?_
    rintro e w3 ⟨rfl, hb⟩
    have K3 := Lib.hid (K2.out.trans (hb.mono K2.out.size))
    clear hb
    cases hr2 : (inB (W.length : Int) 1 32 && W.all (winB n)) with
    | false => exact ⟨rfl, by rw [HM.out, hr1, hr2]; rfl, B1.out.trans (K3.out.mono B1.out.size)⟩
    | true =>
      rw [endE_true]
      have c1 := (X1.out.below K3.out).c1
      have c2 := (X1.out.below K3.out).c2
      go_wp2_with fail
      refine (askAll_chan 83 _ (enters Try.func83 rfl rfl) (chanB n) 0 16 _ H w3 (HC.out.below K3.out).hs (fun W x y z t hW => by simpa using askChan_ok x y z t w.heap.size (w.heap.size + 1) n c a W ((((K3.out.trans (hW.mono K3.out.size)).cell (p := ⟨w.heap.size + 1, 0, none⟩) (block_lt_of_cell F1.out))).trans F1.out) (X1.out.below (K3.out.trans (hW.mono K3.out.size))).c0 ht)).mono ?_
      rintro e w4 ⟨rfl, hb⟩
      have K4 := Lib.hid (K3.out.trans (hb.mono K3.out.size))
      clear hb
      cases hr3 : (inB (H.length : Int) 0 16 && H.all (chanB n)) with
      | false => exact ⟨rfl, by rw [HM.out, hr1, hr2, hr3]; rfl, B1.out.trans (K4.out.mono B1.out.size)⟩
      | true =>
        rw [endE_true]
        have c0 := (X1.out.below K4.out).c0
        go_wp2_with fail
        go_loopw [19] (fun i wr => HasRel w1 W n i wr) (fun i _ => (n - (intOf i).toNat))
        case atStart => exact ⟨0, rfl, Nat.zero_le _, K4.out, rfl⟩
        case round =>
          obtain ⟨j, rfl, hj, hB, hall⟩ := hrel
          have K5 := Lib.hid hB
          have ALL := Lib.hid hall
          clear hB hall c1 c2 c0
          by_cases hlt' : j < n
          · have c1 := (X1.out.below K5.out).c1
            have hlt1 : w.heap.size < wr.heap.size := lt_of_block (X1.out.below K5.out)
            go_wp2_with fail
            have A5 := Lib.hid ((Below.refl wr.heap.size wr).alloc (Nat.le_refl _) (.cells #[.int .i64 (j : Int)] 3))
            have K6 := Lib.hid (K5.out.trans (A5.out.mono K5.out.size))
            refine (containsFunc_win 85 #[.pointer (some ⟨wr.heap.size, 0, none⟩)] (enters Try.func85 rfl rfl) (fun T => T.getD 0 0 == (j : Int)) _ W _ (HC.out.below K6.out).ws (fun W x y hW => by simpa using askHas_ok x y j wr.heap.size W ((hW.cell (p := ⟨wr.heap.size, 0, none⟩) (by simp)).trans (by rw [cell_of_row _ _ _ _ _ _ (heap_alloc_new wr _)]; rfl)))).mono ?_
            rintro e w6 ⟨rfl, hb⟩
            have K7 := Lib.hid (K6.out.trans (hb.mono K6.out.size))
            clear hb
            cases hr4 : W.any (fun T => T.getD 0 0 == (j : Int)) with
            | false =>
              go_wp2_with fail
              refine (must_no _ _).mono ?_
              rintro e w7 ⟨rfl, rfl⟩
              exact ⟨rfl, by rw [HM.out, hr1, hr2, hr3, range_not (hasB W) j n hlt' hr4]; rfl, B1.out.trans (K7.out.mono B1.out.size)⟩
            | true =>
              have ALL2 : Hid ((List.range (j + 1)).all (hasB W) = true) := Lib.hid (by rw [range_all, ALL.out, show hasB W j = true from hr4]; rfl)
              go_wp2_with fail
              refine (must_yes _ _).mono ?_
              rintro e w7 ⟨rfl, rfl⟩
              go_wp2
              go_roundw
              case rel => exact ⟨j + 1, by go_num, by omega, K7.out, ALL2.out⟩
              case measure => simp [intOf]; omega
          · obtain rfl : j = n := by omega
            clear hlt'
            go_wp2
            go_end0
            exact ⟨by rw [HM.out, hr1, hr2, hr3, ALL.out]; rfl, B1.out.trans (K5.out.mono B1.out.size)⟩
theorem askConf_ok (v1 v2 v3 : Value) (C : Cf) (w : World) (h : CfAt w v1 v2 v3 C) : Calls Try.prog 53 #[.agg #[v1, v2, v3]] w fun e w' => e = endE (mayB C) 2 ∧ Below w.heap.size w w' := by
  obtain ⟨P, W, H⟩ := C
  have hps := h.ps
  obtain ⟨a, c, rfl, ht, _, _⟩ := hps
  exact ask_in a _ c v2 v3 P W H rfl ht w h

theorem sum_take (f : Row → Int) (S : List Row) (j : Nat) (h : j < S.length) : ((S.take (j + 1)).map f).sum = ((S.take j).map f).sum + f (S.getD j []) := by
  have e : S.getD j [] = S[j] := by simp [List.getD_eq_getElem?_getD, h]
  rw [List.take_succ_eq_append_getElem h, e, List.map_append, List.sum_append]
  simp
theorem sum_le (f : Row → Int) (k : Nat) : ∀ (S : List Row), (∀ T ∈ S, 0 ≤ f T ∧ f T ≤ k) → 0 ≤ (S.map f).sum ∧ (S.map f).sum ≤ (S.length : Int) * k
  | [], _ => by simp
  | T :: S, h => by
    have h1 := sum_le f k S (fun U hU => h U (by simp [hU]))
    have h2 := h T (by simp)
    simp only [List.map_cons, List.sum_cons, List.length_cons]
    rw [show ((S.length + 1 : Nat) : Int) * k = (S.length : Int) * k + k by push_cast; rw [Int.add_mul, Int.one_mul]]
    omega
theorem partF_le (T : Row) (h : partB T = true) : (4 ≤ T.getD 0 0 ∧ T.getD 0 0 ≤ 256) ∧ (1 ≤ T.getD 1 0 ∧ T.getD 1 0 ≤ 8) ∧ 0 ≤ partF T ∧ partF T ≤ 300 := by
  simp only [partB, inB, Bool.and_eq_true, decide_eq_true_eq] at h
  unfold partF
  omega
theorem chanF_le (n : Nat) (T : Row) (h : chanB n T = true) : (1 ≤ T.getD 2 0 ∧ T.getD 2 0 ≤ 8) ∧ (1 ≤ T.getD 3 0 ∧ T.getD 3 0 ≤ 8) ∧ (0 ≤ T.getD 2 0 * (T.getD 3 0 + 1) ∧ T.getD 2 0 * (T.getD 3 0 + 1) ≤ 72) ∧ 0 ≤ chanF T ∧ chanF T ≤ 300 := by
  simp only [chanB, inB, Bool.and_eq_true, decide_eq_true_eq] at h
  obtain ⟨-, -, -, ⟨a1, a2⟩, a3, a4⟩ := h
  have h1 : 0 ≤ T.getD 2 0 * (T.getD 3 0 + 1) := Int.mul_nonneg (by omega) (by omega)
  have h2 : T.getD 2 0 * (T.getD 3 0 + 1) ≤ 8 * 9 := Int.mul_le_mul (by omega) (by omega) (by omega) (by omega)
  unfold chanF
  omega
theorem mayB_parts {C : Cf} (h : mayB C = true) : (C.1.length ≤ 8 ∧ ∀ T ∈ C.1, partB T = true) ∧ (C.2.2.length ≤ 16 ∧ ∀ T ∈ C.2.2, chanB C.1.length T = true) := by
  simp only [mayB, Bool.and_eq_true, inB, decide_eq_true_eq, List.all_eq_true] at h
  obtain ⟨⟨⟨p1, p2⟩, p3⟩, -, ⟨⟨c1, c2⟩, c3⟩, -⟩ := h
  exact ⟨⟨by omega, p3⟩, by omega, c3⟩
theorem take_mem {S : List Row} {j : Nat} {p : Row → Prop} (h : ∀ T ∈ S, p T) : ∀ T ∈ S.take j, p T := fun T hT => h T (List.mem_of_mem_take hT)
def FrRel (w : World) (z : Int) (f : Row → Int) (S : List Row) (n : Nat) (s i : Value) (wr : World) : Prop := ∃ j : Nat, i = .int .i64 (j : Int) ∧ j ≤ n ∧ s = .int .i64 (z + ((S.take j).map f).sum) ∧ Below w.heap.size w wr
set_option maxHeartbeats 2000000 in
theorem frames_in (a1 a3 : Option Addr) (n c1 m c3 : Nat) (v2 : Value) (P W H : List Row) (hn : n = P.length) (hm : m = H.length) (ht : n ≤ 8) (ht3 : m ≤ 16) (hP : ∀ T ∈ P, partB T = true) (hH : ∀ T ∈ H, chanB n T = true) (w : World) (h : CfAt w (.slice a1 n c1) v2 (.slice a3 m c3) (P, W, H)) :
    Calls Try.prog 54 #[.agg #[.slice a1 n c1, v2, .slice a3 m c3]] w fun e w' => e = .returned (.int .i64 (framesC (P, W, H))) ∧ Below w.heap.size w w' := by
  obtain ⟨w1, hw1⟩ : ∃ w1, w1 = w.alloc (.cells #[.slice a1 n c1, v2, .slice a3 m c3] 26) := ⟨_, rfl⟩
  have hb1 : Below w.heap.size w w1 := by rw [hw1]; exact (Below.refl _ _).alloc (Nat.le_refl _) _
  have HX : CBox w1 w.heap.size (.slice a1 n c1) v2 (.slice a3 m c3) := by rw [hw1]; exact CBox.new w _ _ _
  have HC := Lib.hid (h.below hb1)
  have X1 := Lib.hid HX
  have B1 := Lib.hid hb1
  have d0 := HX.c0
  have HN := Lib.hid hn
  have HM := Lib.hid hm
  have PP := Lib.hid hP
  have HH := Lib.hid hH
  clear h hb1 HX hn hm hP hH
  go_enter Try.func54, Try.ntmps54
  go_wp2_with fail
  rw [← hw1]
  clear hw1
  go_wp2_with fail
  go_loopw [3, 11] (fun s i wr => FrRel w1 0 partF P n s i wr) (fun _ i _ => (n - (intOf i).toNat))
  case atStart => exact ⟨0, rfl, Nat.zero_le _, by simp, Below.refl _ _⟩
  case round =>
    obtain ⟨j, rfl, hj, rfl, hB⟩ := hrel
    have K := Lib.hid hB
    clear hB d0
    have hsum := sum_le partF 300 (P.take j) (take_mem fun T hT => (partF_le T (PP.out T hT)).2.2)
    have hlen : ((P.take j).length : Int) * (300 : Nat) ≤ 2400 := by
      have : (P.take j).length ≤ 8 := by rw [List.length_take]; omega
      have : ((P.take j).length : Int) ≤ 8 := by exact_mod_cast this
      omega
    obtain ⟨s, hs⟩ : ∃ s, s = ((P.take j).map partF).sum := ⟨_, rfl⟩
    rw [← hs] at hsum ⊢
    have SS := Lib.hid hs
    have s0 : 0 ≤ s := hsum.1
    have s1 : s ≤ 2400 := Int.le_trans hsum.2 hlen
    rw [Int.zero_add]
    clear hs hsum hlen
    by_cases hlt' : j < n
    · obtain ⟨_, _, hq, _, hT, hS⟩ := HC.out.ps
      have hq' := (Value.slice.inj hq).1
      subst hq'
      clear hq
      obtain ⟨b, o, rfl, hlt, hc⟩ := hS.resolve_left (by intro e; have := HN.out; simp only at e; rw [e] at this; simp at this; omega)
      obtain ⟨x, y, hrow, e0, e1⟩ := two_cells hT hc j (show j < P.length by have := HN.out; omega)
      have e0 := (K.out.cell (p := ⟨b, o + j * 2, none⟩) hlt).trans e0
      have e1 := (K.out.cell (p := ⟨b, o + j * 2 + 1, none⟩) hlt).trans e1
      simp only at hrow
      have hx := partF_le (P.getD j []) (PP.out _ (getD_mem (by have := HN.out; omega)))
      have hnext := sum_take partF P j (by have := HN.out; omega)
      rw [hrow] at hx hnext
      rw [← SS.out] at hnext
      obtain ⟨⟨x1, x2⟩, ⟨y1, y2⟩, -⟩ := hx
      simp only [List.getD_cons_zero, List.getD_cons_succ] at x1 x2 y1 y2
      rw [show partF [x, y] = x + (y + 2) / 3 from rfl] at hnext
      have HNX := Lib.hid hnext
      have hp := fun w => pieces_ok y 3 (by omega) (by omega) (by decide) (by decide) w
      obtain ⟨q, hq⟩ : ∃ q, q = (y + 3 - 1) / 3 := ⟨_, rfl⟩
      rw [← hq] at hp
      have q0 : 0 ≤ q := by omega
      have q1 : q ≤ 10 := by omega
      have HQ : Hid (q = (y + 2) / 3) := Lib.hid (by rw [hq, show y + 3 - 1 = y + 2 by omega])
      have HPC := Lib.hid hp
      clear hc hS hT hrow hnext hp hq
      go_wp2_with fail
      obtain ⟨w2, hw2⟩ : ∃ w2, w2 = wr.alloc (.cells #[.int .i64 x, .int .i64 y] 80) := ⟨_, rfl⟩
      have K2 : Hid (Below w1.heap.size w1 w2) := Lib.hid (by rw [hw2]; exact K.out.alloc K.out.size _)
      have g0 : w2.cell? ⟨wr.heap.size, 0, none⟩ = some (.int .i64 x) := by rw [hw2, cell_of_row _ _ _ _ _ _ (heap_alloc_new wr _)]; rfl
      have g1 : w2.cell? ⟨wr.heap.size, 1, none⟩ = some (.int .i64 y) := by rw [hw2, cell_of_row _ _ _ _ _ _ (heap_alloc_new wr _)]; rfl
      rw [← hw2]
      clear hw2
      go_quiet ((go_at_call 86; exact Calls.quiet_of_same ((HPC.out _).mono fun _ _ h => ⟨h.1, h.2.symm⟩)))
      go_wp2
      go_roundw
      case rel => exact ⟨j + 1, by go_num, by omega, by rw [HNX.out, HQ.out]; go_num, below_drewN K2.out _⟩
      case measure => simp [intOf]; omega
    · obtain rfl : j = n := by omega
      have SE : Hid (s = (P.map partF).sum) := Lib.hid (by rw [SS.out, HN.out, List.take_length])
      have d2 := (X1.out.below K.out).c2
      clear hlt' SS
      go_wp2_with fail
      go_loopw [3, 27] (fun z i wr => FrRel w1 s chanF H m z i wr) (fun _ i _ => (m - (intOf i).toNat))
      case atStart => exact ⟨0, rfl, Nat.zero_le _, by simp, K.out⟩
      case round =>
        obtain ⟨i, rfl, hi, rfl, hB⟩ := hrel
        have K' := Lib.hid hB
        clear hB d2
        have hsum := sum_le chanF 300 (H.take i) (take_mem fun T hT => (chanF_le _ T (HH.out T hT)).2.2.2)
        have hlen : ((H.take i).length : Int) * (300 : Nat) ≤ 4800 := by
          have : (H.take i).length ≤ 16 := by rw [List.length_take]; omega
          have : ((H.take i).length : Int) ≤ 16 := by exact_mod_cast this
          omega
        obtain ⟨z, hz⟩ : ∃ z, z = ((H.take i).map chanF).sum := ⟨_, rfl⟩
        rw [← hz] at hsum ⊢
        have ZZ := Lib.hid hz
        have z0 : 0 ≤ z := hsum.1
        have z1 : z ≤ 4800 := Int.le_trans hsum.2 hlen
        clear hz hsum hlen
        by_cases hlt' : i < m
        · obtain ⟨_, _, hq, _, hT, hS⟩ := HC.out.hs
          have hq' := (Value.slice.inj hq).1
          subst hq'
          clear hq
          obtain ⟨b, o, rfl, hlt, hc⟩ := hS.resolve_left (by intro e; have := HM.out; simp only at e; rw [e] at this; simp at this; omega)
          obtain ⟨x, y, u, v, hrow, e0, e1, e2, e3⟩ := four_cells hT hc i (show i < H.length by have := HM.out; omega)
          have e0 := (K'.out.cell (p := ⟨b, o + i * 4, none⟩) hlt).trans e0
          have e1 := (K'.out.cell (p := ⟨b, o + i * 4 + 1, none⟩) hlt).trans e1
          have e2 := (K'.out.cell (p := ⟨b, o + i * 4 + 2, none⟩) hlt).trans e2
          have e3 := (K'.out.cell (p := ⟨b, o + i * 4 + 3, none⟩) hlt).trans e3
          simp only at hrow
          have hx := chanF_le _ (H.getD i []) (HH.out _ (getD_mem (by have := HM.out; omega)))
          have hnext := sum_take chanF H i (by have := HM.out; omega)
          rw [hrow] at hx hnext
          rw [← ZZ.out] at hnext
          obtain ⟨⟨u1, u2⟩, ⟨v1, v2⟩, ⟨p1, p2⟩, -⟩ := hx
          simp only [List.getD_cons_zero, List.getD_cons_succ] at u1 u2 v1 v2 p1 p2
          rw [show chanF [x, y, u, v] = (u * (v + 1) + 31) / 32 from rfl] at hnext
          have HNX := Lib.hid hnext
          have hp := fun w => pieces_ok (u * (v + 1)) 32 p1 (by omega) (by decide) (by decide) w
          obtain ⟨r, hr⟩ : ∃ r, r = u * (v + 1) := ⟨_, rfl⟩
          rw [← hr] at hp p1 p2 HNX
          obtain ⟨q, hq⟩ : ∃ q, q = (r + 32 - 1) / 32 := ⟨_, rfl⟩
          rw [← hq] at hp
          have q0 : 0 ≤ q := by omega
          have q1 : q ≤ 10 := by omega
          have HQ : Hid (q = (r + 31) / 32) := Lib.hid (by rw [hq, show r + 32 - 1 = r + 31 by omega])
          have HPC := Lib.hid hp
          have hr2 : u * (v + 1) = r := hr.symm
          clear hc hS hT hrow hnext hp hq hr
          go_wp2_with fail
          refine (HPC.out _).mono ?_
          rintro e w3 ⟨rfl, rfl⟩
          have K2 : Hid (Below w1.heap.size w1 (wr.alloc (.cells #[.int .i64 x, .int .i64 y, .int .i64 u, .int .i64 v] 47))) := Lib.hid (K'.out.alloc K'.out.size _)
          go_wp2
          go_roundw
          case rel => exact ⟨i + 1, by go_num, by omega, by rw [HNX.out, HQ.out]; go_num, K2.out⟩
          case measure => simp [intOf]; omega
        · obtain rfl : i = m := by omega
          have ZE : Hid (z = (H.map chanF).sum) := Lib.hid (by rw [ZZ.out, HM.out, List.take_length])
          clear hlt' ZZ
          go_wp2
          go_ret
          exact ⟨by rw [SE.out, ZE.out]; rfl, B1.out.trans (K'.out.mono B1.out.size)⟩
end Go.Proofs.Ytnapodeiigkebaa

/- The contracts of package conf's askWhole, Check, Frames. Condition: the configuration's lists lie in memory. -/
namespace Go.Proofs.Ytnapodeiigkebaa
open Go.RowKit
set_option maxRecDepth 100000

theorem frames_ok (v1 v2 v3 : Value) (C : Cf) (hm : mayB C = true) (w : World) (h : CfAt w v1 v2 v3 C) : Calls Try.prog 54 #[.agg #[v1, v2, v3]] w fun e w' => e = .returned (.int .i64 (framesC C)) ∧ Below w.heap.size w w' := by
  obtain ⟨⟨p1, p2⟩, c1, c2⟩ := mayB_parts hm
  obtain ⟨P, W, H⟩ := C
  have hps := h.ps
  obtain ⟨a, c, rfl, _, _, _⟩ := hps
  have hhs := h.hs
  obtain ⟨a', c', rfl, _, _, _⟩ := hhs
  exact frames_in a a' _ c _ c' v2 P W H rfl rfl p1 c1 p2 c2 w h
theorem framesC_le {C : Cf} (hm : mayB C = true) : 0 ≤ framesC C ∧ framesC C ≤ 10000 := by
  obtain ⟨⟨p1, p2⟩, c1, c2⟩ := mayB_parts hm
  have h1 := sum_le partF 300 C.1 (fun T hT => (partF_le T (p2 T hT)).2.2)
  have h2 := sum_le chanF 300 C.2.2 (fun T hT => (chanF_le _ T (c2 T hT)).2.2.2)
  unfold framesC
  omega
set_option maxHeartbeats 1000000 in
theorem askWhole_ok (v1 v2 v3 : Value) (C : Cf) (w : World) (h : CfAt w v1 v2 v3 C) : Calls Try.prog 51 #[.agg #[v1, v2, v3]] w fun e w' => e = endN (chk C) ∧ Below w.heap.size w w' := by
  obtain ⟨w1, hw1⟩ : ∃ w1, w1 = w.alloc (.cells #[v1, v2, v3] 26) := ⟨_, rfl⟩
  have hb1 : Below w.heap.size w w1 := by rw [hw1]; exact (Below.refl _ _).alloc (Nat.le_refl _) _
  have HX : CBox w1 w.heap.size v1 v2 v3 := by rw [hw1]; exact CBox.new w _ _ _
  have HC := Lib.hid (h.below hb1)
  have X1 := Lib.hid HX
  have B1 := Lib.hid hb1
  have d0 := HX.c0
  have d1 := HX.c1
  have d2 := HX.c2
  clear h hb1 HX
  go_enter Try.func51, Try.ntmps51
  go_wp2_with fail
  rw [← hw1]
  clear hw1
  go_wp2_with fail
  refine (askConf_ok v1 v2 v3 C w1 HC.out).mono ?_
  rintro e w2 ⟨rfl, hb⟩
  have K2 := Lib.hid hb
  clear hb d0 d1 d2
  cases hm : mayB C with
  | false => exact ⟨rfl, by rw [show chk C = 2 by unfold chk; rw [hm]; rfl]; rfl, B1.out.trans (K2.out.mono B1.out.size)⟩
  | true =>
    rw [endE_true]
    have d0 := (X1.out.below K2.out).c0
    have d1 := (X1.out.below K2.out).c1
    have d2 := (X1.out.below K2.out).c2
    go_wp2_with fail
    refine (frames_ok v1 v2 v3 C hm w2 (HC.out.below K2.out)).mono ?_
    rintro e w3 ⟨rfl, hb⟩
    have K3 := Lib.hid (K2.out.trans (hb.mono K2.out.size))
    have hfl := framesC_le hm
    obtain ⟨f, hf⟩ : ∃ f, f = framesC C := ⟨_, rfl⟩
    rw [← hf] at hfl ⊢
    have HF := Lib.hid hf
    clear hb hf
    by_cases hle : f ≤ 1024
    · have hd : decide (f ≤ 1024) = true := decide_eq_true hle
      go_wp2_with fail
      refine (must_yes _ _).mono ?_
      rintro e w4 ⟨rfl, rfl⟩
      go_wp2
      go_end0
      exact ⟨by rw [show chk C = 0 by unfold chk; rw [hm, ← HF.out]; simp [hle]]; rfl, B1.out.trans (K3.out.mono B1.out.size)⟩
    · have hd : decide (f ≤ 1024) = false := decide_eq_false hle
      go_wp2_with fail
      refine (must_no _ _).mono ?_
      rintro e w4 ⟨rfl, rfl⟩
      exact ⟨rfl, by rw [show chk C = 3 by unfold chk; rw [hm, ← HF.out]; simp [hle]]; rfl, B1.out.trans (K3.out.mono B1.out.size)⟩
theorem check1_ok (b : Nat) (v1 v2 v3 : Value) (C : Cf) (w : World) (hx : CBox w b v1 v2 v3) (h : CfAt w v1 v2 v3 C) : Calls Try.prog 50 #[.pointer (some ⟨b, 0, none⟩)] w fun e w' => e = endN (chk C) ∧ Below w.heap.size w w' := by
  have d0 := hx.c0
  have d1 := hx.c1
  have d2 := hx.c2
  have HC := Lib.hid h
  clear h hx
  go_enter Try.func50, Try.ntmps50
  go_wp2_with fail
  refine (askWhole_ok v1 v2 v3 C w HC.out).mono ?_
  rintro e w2 ⟨rfl, hb⟩
  rcases chk_cases C with hk | hk | hk
  · rw [hk]
    go_wp2
    go_end0
    exact ⟨by rw [hk]; rfl, hb⟩
  · rw [hk]
    exact ⟨rfl, by rw [hk]; rfl, hb⟩
  · rw [hk]
    exact ⟨rfl, by rw [hk]; rfl, hb⟩
theorem below_setNew {w w' : World} {b : Nat} {x : Value} (h : Below w.heap.size w w') (hb : w.heap.size ≤ b) : Below w.heap.size w (w'.setCell ⟨b, 0, none⟩ x) := h.setCell (p := ⟨b, 0, none⟩) hb _
theorem check_ok (v1 v2 v3 : Value) (C : Cf) (w : World) (h : CfAt w v1 v2 v3 C) : Calls Try.prog 26 #[.agg #[v1, v2, v3]] w fun e w' => e = .returned (.int .i64 (chk C)) ∧ Below w.heap.size w w' := by
  have hmf : ∀ (fn : Fn) (first cap : Array Value) (w : World), (Instr.makeFunc fn first cap).run Try.prog w = .ok (.func fn first cap) w := fun _ _ _ _ => rfl
  obtain ⟨w1, hw1⟩ : ∃ w1, w1 = w.alloc (.cells #[v1, v2, v3] 26) := ⟨_, rfl⟩
  have hb1 : Below w.heap.size w w1 := by rw [hw1]; exact (Below.refl _ _).alloc (Nat.le_refl _) _
  have HX : CBox w1 w.heap.size v1 v2 v3 := by rw [hw1]; exact CBox.new w _ _ _
  have hA : Below w1.heap.size w1 (w1.alloc (.cells #[.int .i64 0] 31)) := (Below.refl _ _).alloc (Nat.le_refl _) _
  have hdo := check1_ok w.heap.size v1 v2 v3 C (w1.alloc (.cells #[.int .i64 0] 31)) (HX.below hA) ((h.below hb1).below hA)
  have hcaught := caught_ok 50 #[.pointer (some ⟨w.heap.size, 0, none⟩)] (enters Try.func50 rfl rfl) (chk C) w1 (fun w' => Below (w1.alloc (.cells #[.int .i64 0] 31)).heap.size (w1.alloc (.cells #[.int .i64 0] 31)) w') hdo
    (fun w' hw => ⟨0, below_block hw (heap_alloc_new w1 _)⟩)
  have HCC := Lib.hid hcaught
  have B1 := Lib.hid hb1
  have A1 := Lib.hid hA
  clear hdo hcaught hA hb1 HX h
  go_enter Try.func26, Try.ntmps26
  go_wp2_with fail
  rw [← hw1]
  clear hw1
  go_wp2_with fail
  refine HCC.out.mono ?_
  rintro e w2 ⟨rfl, w3, hb, rfl⟩
  have K := Lib.hid (B1.out.trans ((below_setNew (x := .int .i64 (chk C)) (A1.out.trans (hb.mono A1.out.size)) (Nat.le_refl _)).mono B1.out.size))
  clear hb
  go_wp2
  go_ret
  exact ⟨rfl, K.out⟩
def frE (C : Cf) : Int := if mayB C then 0 else 2
theorem frE_yes {C : Cf} (h : mayB C = true) : frE C = 0 := by unfold frE; rw [if_pos h]
theorem frE_no {C : Cf} (h : mayB C = false) : frE C = 2 := by unfold frE; rw [if_neg (by rw [h]; decide)]
/-- A number in a variable of its own. -/
def NumAt (w : World) (q : Nat) (n : Int) : Prop := w.heap[q]? = some (.cells #[.int .i64 n] 3 (0, 0))
set_option maxHeartbeats 1000000 in
theorem frames1_ok (b q : Nat) (v1 v2 v3 : Value) (C : Cf) (w : World) (hx : CBox w b v1 v2 v3) (hq : NumAt w q 0) (h : CfAt w v1 v2 v3 C) : Calls Try.prog 52 #[.pointer (some ⟨b, 0, none⟩), .pointer (some ⟨q, 0, none⟩)] w fun e w' => e = endN (frE C) ∧ w.grownBy w' (some q) ∧ NumAt w' q (framesA C) := by
  have d0 := hx.c0
  have d1 := hx.c1
  have d2 := hx.c2
  have HC := Lib.hid h
  have X := Lib.hid hx
  have HQ := Lib.hid hq
  clear h hx hq
  go_enter Try.func52, Try.ntmps52
  go_wp2_with fail
  refine (askConf_ok v1 v2 v3 C w HC.out).mono ?_
  rintro e w2 ⟨rfl, hb⟩
  have K2 := Lib.hid hb
  clear hb d0 d1 d2
  cases hm : mayB C with
  | false => exact ⟨rfl, by rw [frE_no hm]; rfl, grownBy_of_below K2.out _, by rw [show framesA C = 0 by unfold framesA; rw [hm]; rfl]; exact below_block K2.out HQ.out⟩
  | true =>
    rw [endE_true]
    have d0 := (X.out.below K2.out).c0
    have d1 := (X.out.below K2.out).c1
    have d2 := (X.out.below K2.out).c2
    go_wp2_with fail
    refine (frames_ok v1 v2 v3 C hm w2 (HC.out.below K2.out)).mono ?_
    rintro e w3 ⟨rfl, hb⟩
    have K3 := Lib.hid (K2.out.trans (hb.mono K2.out.size))
    have Q3 : Hid (NumAt w3 q 0) := Lib.hid (below_block K3.out HQ.out)
    have q0 : w3.cell? ⟨q, 0, none⟩ = some (.int .i64 0) := by rw [cell_of_row w3 _ _ _ _ _ Q3.out]; rfl
    have f0 : w3.frozen? ⟨q, 0, none⟩ = false := frozen_of_row w3 _ 0 _ _ Q3.out
    clear hb
    go_wp2
    go_end0
    refine ⟨by rw [frE_yes hm]; rfl, grownBy_trans (grownBy_of_below K3.out _) (grownBy_setCell _ _ _ _), ?_⟩
    rw [show framesA C = framesC C by unfold framesA; rw [hm]; rfl]
    exact heap_setCell_same w3 q 0 _ _ (.int .i64 (framesC C)) Q3.out
set_option maxHeartbeats 1000000 in
theorem framesOf_ok (v1 v2 v3 : Value) (C : Cf) (w : World) (h : CfAt w v1 v2 v3 C) : Calls Try.prog 27 #[.agg #[v1, v2, v3]] w fun e w' => e = .returned (.int .i64 (framesA C)) ∧ Below w.heap.size w w' := by
  have hmf : ∀ (fn : Fn) (first cap : Array Value) (w : World), (Instr.makeFunc fn first cap).run Try.prog w = .ok (.func fn first cap) w := fun _ _ _ _ => rfl
  obtain ⟨w1, hw1⟩ : ∃ w1, w1 = (w.alloc (.cells #[v1, v2, v3] 26)).alloc (.cells #[.int .i64 0] 3) := ⟨_, rfl⟩
  have hb1 : Below w.heap.size w w1 := by rw [hw1]; exact below_two w _ _
  have HX : CBox w1 w.heap.size v1 v2 v3 := by rw [hw1]; exact (CBox.new w _ _ _).below ((Below.refl _ _).alloc (Nat.le_refl _) _)
  have HQ : NumAt w1 (w.heap.size + 1) 0 := by rw [hw1]; exact heap_alloc2_new w _ _
  have hsz : w1.heap.size = w.heap.size + 2 := by rw [hw1]; simp
  have hA : Below w1.heap.size w1 (w1.alloc (.cells #[.int .i64 0] 31)) := (Below.refl _ _).alloc (Nat.le_refl _) _
  obtain ⟨w2, hw2⟩ : ∃ w2, w2 = w1.alloc (.cells #[.int .i64 0] 31) := ⟨_, rfl⟩
  have hE : w2.heap[w1.heap.size]? = some (.cells #[.int .i64 0] 31 (0, 0)) := by rw [hw2]; exact heap_alloc_new w1 _
  have hdo := frames1_ok w.heap.size (w.heap.size + 1) v1 v2 v3 C (w1.alloc (.cells #[.int .i64 0] 31)) (HX.below hA) (below_block hA HQ) ((h.below hb1).below hA)
  rw [← hw2] at hA hdo
  have hdo' := hdo
  rw [hw2] at hdo'
  have hcaught := caught_ok 52 #[.pointer (some ⟨w.heap.size, 0, none⟩), .pointer (some ⟨w.heap.size + 1, 0, none⟩)] (enters Try.func52 rfl rfl) (frE C) w1 (fun w' => w2.grownBy w' (some (w.heap.size + 1)) ∧ NumAt w' (w.heap.size + 1) (framesA C)) (by rw [← hw2]; exact hdo)
    (fun w' hw => ⟨0, (hw.1.block w1.heap.size (lt_of_block hE) (fun e => by have := Option.some.inj e; omega)).trans hE⟩)
  have HCC := Lib.hid hcaught
  have B1 := Lib.hid hb1
  have A1 := Lib.hid hA
  clear hdo hdo' hcaught hA hb1 HX HQ h hE hw2
  go_enter Try.func27, Try.ntmps27
  go_wp2_with fail
  rw [← hw1]
  clear hw1
  go_wp2_with fail
  refine HCC.out.mono ?_
  rintro e w4 ⟨rfl, w3, ⟨hg, hn⟩, rfl⟩
  have K := Lib.hid (below_setNew (x := .int .i64 (frE C)) (b := w1.heap.size) (((B1.out.trans (A1.out.mono B1.out.size)).trans (below_of_grownBy hg (Nat.le_trans B1.out.size A1.out.size) (by omega)))) B1.out.size)
  have hc : (w3.setCell ⟨w1.heap.size, 0, none⟩ (.int .i64 (frE C))).heap[w.heap.size + 1]? = some (.cells #[.int .i64 (framesA C)] 3 (0, 0)) := by
    rw [Below.heap_setCell _ _ _ _ (by simp only; omega)]; exact hn
  generalize w3.setCell ⟨w1.heap.size, 0, none⟩ (.int .i64 (frE C)) = w5 at *
  have d0 : w5.cell? ⟨w.heap.size + 1, 0, none⟩ = some (.int .i64 (framesA C)) := by rw [cell_of_row w5 _ _ _ _ _ hc]; rfl
  clear hg hn hc
  go_wp2
  go_ret
  exact ⟨rfl, K.out⟩
end Go.Proofs.Ytnapodeiigkebaa
