/- Texts of mine, joined: Z5 Z6. What each says and under which conditions stands at its head, below. -/
import Derived.Test.YtkenipanpimolaaGreatDoorIA
import Derived.Test.YtkenipanpimolaaGreatDoorHX
import Derived.Test.YtkenipanpimolaaGreatDoorHW
/- Two spaces of three pages that may be written to, under two containers: what copy's calls do, by the words that are seen. Condition: the listed tables read as laid. -/
namespace Go.Proofs.YtkenipanpimolaaGreatDoor
open Go.RowKit Go.Maps
set_option maxRecDepth 100000

abbrev ar3 : List Ar := [(0, 3, true)]
/-- Two containers, one carved from the other. -/
abbrev twoL (q h u1 u2 : Int) : List Nd := [(1, 0, q, u1), (2, 1, h, u2)]
theorem left_two1 (q h u1 u2 : Int) : leftL (twoL q h u1 u2) 1 = q - u1 - h := by
  show q - u1 - (0 + (h + 0)) = _
  omega
theorem left_two2 (q h u1 u2 : Int) : leftL (twoL q h u1 u2) 2 = h - u2 := by
  show h - u2 - (0 + (0 + 0)) = _
  omega
theorem charge_two {i : Int} (hi : i = 1 ∨ i = 2) (q h u1 u2 k : Int) : ∃ v1 v2, chargeL (twoL q h u1 u2) i k = twoL q h v1 v2 := by
  unfold chargeL
  split
  · rcases hi with rfl | rfl
    · exact ⟨u1 + k, u2, rfl⟩
    · exact ⟨u1, u2 + k, rfl⟩
  · exact ⟨u1, u2, rfl⟩
theorem cntR_lowZ {b : Nat → Bool} {m : Nat} (h : ∀ y, m ≤ y → b y = false) : ∀ k, cntR b k ≤ m ∧ cntR b k ≤ k
  | 0 => by simp [cntR]
  | k + 1 => by
    have ih := cntR_lowZ h k
    rw [cntR_succ]
    by_cases hk : m ≤ k
    · rw [h k hk]; simp; omega
    · split <;> omega
theorem costP_low3 {b : Nat → Bool} (h : ∀ p, p < 1024 → b p = true → p < 3) : costP b ≤ 5 := by
  have e : costP b = costP fun p => b p && decide (p < 3) := costP_congr fun p hp => by
    cases hb : b p with
    | false => rfl
    | true => simp [h p hp hb]
  have h0 : ∀ p, 3 ≤ p → (fun p => b p && decide (p < 3)) p = false := fun p hp => by simp; omega
  have h1 := (cntR_lowZ h0 1024).1
  have h2 : ∀ y, 1 ≤ y → hasP (fun p => b p && decide (p < 3)) y = false := fun y hy => by
    cases hx : hasP (fun p => b p && decide (p < 3)) y with
    | false => rfl
    | true =>
      obtain ⟨j, hj, hb⟩ := (hasP_iff _ _).1 hx
      have h5 : (b (32 * y + j) && decide (32 * y + j < 3)) = false := h0 _ (by omega)
      rw [h5] at hb; cases hb
  have h3 := (cntR_lowZ h2 32).1
  rw [e]
  unfold costP
  omega
theorem pgs_memZ {va : Int} {n p : Nat} (h0 : 0 ≤ va) (h1 : 1 ≤ n) : p ∈ pgs va n ↔ va / 32 ≤ p ∧ (p : Int) ≤ (va + n - 1) / 32 := by
  unfold pgs
  rw [span_mem]
  omega
theorem pgs_lenZ {va : Int} {n : Nat} (h0 : 0 ≤ va) (h1 : 1 ≤ n) (h2 : va + n ≤ 96) : (pgs va n).length ≤ 3 := by
  unfold pgs
  rw [span_len]
  omega
theorem at_ar3 (p : Nat) : atD ar3 (p : Int) = if p < 3 then some true else none := by
  show (if (0 : Int) ≤ (p : Int) ∧ (p : Int) < 0 + 3 then some true else none) = _
  by_cases h : p < 3
  · rw [if_pos h, if_pos (by omega)]
  · rw [if_neg h, if_neg (by omega)]
theorem may_ar3 (p : Nat) (wr : Bool) : mayE (atD ar3 (p : Int)) wr = if p < 3 then 0 else 7 := by
  rw [at_ar3]
  split <;> simp [mayE]
theorem mayL_ar3 (wr : Bool) : ∀ (L : List Nat), mayL ar3 wr L = 0 ∨ mayL ar3 wr L = 7
  | [] => Or.inl rfl
  | p :: r => by
    rw [mayL]
    split
    · exact mayL_ar3 wr r
    · rename_i h
      rw [may_ar3] at h ⊢
      split at h
      · exact absurd rfl h
      · rename_i h3; rw [if_neg h3]; exact Or.inr rfl
/-- A container has what a space of three pages may want more. -/
def Room (q h : Nat) (i : Int) : Prop := (i = 1 ∧ h + 11 ≤ q) ∨ (i = 2 ∧ 11 ≤ h ∧ h + 11 ≤ q)
/-- A memory by addresses. -/
def rdM (m : Int → Int → Int) (j : Int) (r y : Nat) : Int := m j (32 * r + y)
def updM (m : Int → Int → Int) (i va : Int) (f : Nat → Int) (k : Nat) (j a : Int) : Int := if j = i ∧ va ≤ a ∧ a < va + k then f (a - va).toNat else m j a
theorem updM_zero (m : Int → Int → Int) (i va : Int) (f : Nat → Int) : updM m i va f 0 = m := by
  funext j a
  unfold updM
  rw [if_neg (by omega)]
theorem updM_at (m : Int → Int → Int) (i va : Int) (f : Nat → Int) {k n : Nat} (h : k < n) : updM m i va f n i (va + k) = f k := by
  unfold updM
  rw [if_pos ⟨rfl, by omega, by omega⟩, show (va + (k : Int) - va).toNat = k by omega]
theorem updM_out (m : Int → Int → Int) (i va : Int) (f : Nat → Int) {n : Nat} {j a : Int} (h : j ≠ i ∨ a < va ∨ va + n ≤ a) : updM m i va f n j a = m j a := by
  unfold updM
  rw [if_neg (by omega)]
theorem updM_step (m : Int → Int → Int) (i va : Int) (f : Nat → Int) (k : Nat) (h0 : 0 ≤ va) {j : Int} {r y : Nat} (hy : y < 32) : stR (rdM (updM m i va f k)) i (va + k) (f k) j r y = rdM (updM m i va f (k + 1)) j r y := by
  unfold stR
  by_cases e : j = i ∧ r = ((va + k) / 32).toNat ∧ y = ((va + k) % 32).toNat
  · rw [if_pos e]
    have ha : (32 * (r : Int) + y) = va + k := by omega
    unfold rdM
    rw [ha, e.1, updM_at m i va f (by omega)]
  · rw [if_neg e]
    unfold rdM updM
    by_cases e2 : j = i ∧ va ≤ 32 * (r : Int) + y ∧ 32 * (r : Int) + y < va + k
    · rw [if_pos e2, if_pos (by omega)]
    · rw [if_neg e2, if_neg fun e3 => ?_]
      have ha : (32 * (r : Int) + y) = va + k := by omega
      exact e ⟨e3.1, by omega, by omega⟩
/-- Two spaces, by the words that are seen. -/
def CpS (W0 w : World) (I : SIx) (q h : Nat) (G : Int → Option Pc) (m : Int → Int → Int) : Prop := ∃ u1 u2 pr, Hv W0 w I q (twoL q h u1 u2) G pr (rdM m)
/-- .. of which pages are mapped. -/
def CpP (W0 w : World) (I : SIx) (q h : Nat) (G : Int → Option Pc) (m : Int → Int → Int) (i va : Int) (n : Nat) : Prop := ∃ u1 u2 pr, Hv W0 w I q (twoL q h u1 u2) G pr (rdM m) ∧ ∀ p ∈ pgs va n, pr i p = true
def TwoZ (G : Int → Option Pc) : Prop := ∀ i, i = 1 ∨ i = 2 → ∃ s, G i = some s ∧ s.ar = ar3
section
variable {W0 w : World} {I : SIx} {q h : Nat} {G : Int → Option Pc} {m : Int → Int → Int} {i va : Int} {n : Nat}
theorem CpP.words (k : CpP W0 w I q h G m i va n) : CpS W0 w I q h G m := by
  obtain ⟨u1, u2, pr, a, _⟩ := k
  exact ⟨u1, u2, pr, a⟩
theorem CpS.step {w' : World} (k : CpS W0 w I q h G m) (hb : Below w.heap.size w w') : CpS W0 w' I q h G m := by
  obtain ⟨u1, u2, pr, a⟩ := k
  exact ⟨u1, u2, pr, a.step hb⟩
theorem CpS.below (k : CpS W0 w I q h G m) : Below W0.heap.size W0 w := by
  obtain ⟨u1, u2, pr, a⟩ := k
  exact a.below
theorem Carry.cpS {w0 : World} (hz : W0.heap.size ≤ w0.heap.size) : Carry w0 (fun V => CpS W0 V I q h G m) :=
  ⟨fun _ _ a b => a.step b, fun _ _ _ _ _ _ ⟨u1, u2, pr, a⟩ b c d e f => ⟨u1, u2, pr, a.ownBox b c (Nat.le_trans hz d) e f⟩, fun _ _ _ ⟨u1, u2, pr, a⟩ b c => ⟨u1, u2, pr, a.stayL b (Nat.le_trans hz c)⟩⟩
theorem Carry.cpP {w0 : World} (hz : W0.heap.size ≤ w0.heap.size) : Carry w0 (fun V => CpP W0 V I q h G m i va n) :=
  ⟨fun _ _ ⟨u1, u2, pr, a, p⟩ b => ⟨u1, u2, pr, a.step b, p⟩, fun _ _ _ _ _ _ ⟨u1, u2, pr, a, p⟩ b c d e f => ⟨u1, u2, pr, a.ownBox b c (Nat.le_trans hz d) e f, p⟩, fun _ _ _ ⟨u1, u2, pr, a, p⟩ b c => ⟨u1, u2, pr, a.stayL b (Nat.le_trans hz c), p⟩⟩
theorem CpS.reachOk (k : CpS W0 w I q h G m) (hT : TwoZ G) (hr : Room q h i) (hq : q ≤ 60) (h0 : 0 ≤ va) (h1 : 1 ≤ n) (h2 : va + n ≤ 96) (wr : Bool) :
    Calls Tryz.prog 26 #[.pointer (some ⟨I.ss, 0, none⟩), .int .i64 i, .int .u32 va, .int .i64 (n : Int), .bool wr] w fun e w' => e = .returned (.int .i64 0) ∧ KeepB w w' ∧ CpP W0 w' I q h G m i va n := by
  obtain ⟨u1, u2, pr, a⟩ := k
  have hi : i = 1 ∨ i = 2 := by unfold Room at hr; omega
  obtain ⟨s, hG, hs⟩ := hT i hi
  have hu := a.used hG
  have hc : costP (pr i) ≤ 5 := costP_low3 fun p hp hb => by
    obtain ⟨t, x, hGt, hx⟩ := a.mapd hp hb
    rw [hG] at hGt
    obtain rfl := Option.some.inj hGt
    rw [hs, at_ar3] at hx
    split at hx
    · assumption
    · cases hx
  have hn := needP_le (pgs va n) (pr i)
  have hl := pgs_lenZ h0 h1 h2
  have hm : mayL ar3 wr (pgs va n) = 0 := mayL_at.2 fun p hp => by
    rw [pgs_memZ h0 h1] at hp
    rw [may_ar3, if_pos (by omega)]
  have hch : chargeEU (twoL q h u1 u2) i (needP (pr i) (pgs va n) : Int) = 0 := by
    refine chargeEU_zero.2 ⟨fitB_iff.2 ⟨by omega, by omega, by omega⟩, ?_, ?_⟩
    · rcases hi with rfl | rfl
      · exact ⟨_, rfl⟩
      · exact ⟨_, rfl⟩
    · rcases hr with ⟨rfl, hr⟩ | ⟨rfl, hr, hr2⟩
      · rw [left_two1]
        have : usedN (twoL q h u1 u2) 1 = u1.toNat := rfl
        omega
      · rw [left_two2]
        have : usedN (twoL q h u1 u2) 2 = u2.toNat := rfl
        omega
  refine (a.reach hG va (by omega) n h1 (by omega) wr (er := 0) ?_).mono ?_
  · unfold reachP
    rw [if_neg (by omega), hs, if_neg (fun h => h hm), hch]
  · rintro e w' ⟨rfl, hk, _, hz⟩
    obtain ⟨_, b⟩ := hz rfl
    obtain ⟨v1, v2, hv⟩ := charge_two hi q h u1 u2 (needP (pr i) (pgs va n) : Int)
    rw [hv] at b
    exact ⟨rfl, hk, v1, v2, _, b, fun p hp => orP_in hp⟩
theorem CpS.reachFar (k : CpS W0 w I q h G m) (hT : TwoZ G) (hi : i = 1 ∨ i = 2) (h0 : 0 ≤ va ∧ va < 4294967296) (h1 : 1 ≤ n) (h3 : n ≤ 1024) (h2 : ¬ va + n ≤ 96) (wr : Bool) :
    Calls Tryz.prog 26 #[.pointer (some ⟨I.ss, 0, none⟩), .int .i64 i, .int .u32 va, .int .i64 (n : Int), .bool wr] w fun e w' => e = .returned (.int .i64 7) ∧ KeepB w w' ∧ CpS W0 w' I q h G m := by
  obtain ⟨u1, u2, pr, a⟩ := k
  obtain ⟨s, hG, hs⟩ := hT i hi
  refine (a.reach hG va h0 n h1 h3 wr (er := 7) ?_).mono ?_
  · unfold reachP
    by_cases hv : 32768 ≤ va
    · rw [if_pos hv]
    · rw [if_neg hv, hs]
      have hm : mayL ar3 wr (pgs va n) = 7 := by
        rcases mayL_ar3 wr (pgs va n) with e | e
        · have := mayL_at.1 e ((va + n - 1) / 32).toNat ((pgs_memZ h0.1 h1).2 (by omega))
          rw [may_ar3, if_neg (by omega)] at this
          cases this
        · exact e
      rw [hm]; rfl
  · rintro e w' ⟨rfl, hk, hn, _⟩
    exact ⟨rfl, hk, u1, u2, pr, hn (by decide)⟩
theorem CpS.reachNo (k : CpS W0 w I q h G m) {words : Int} (hw : I64 words) (h1 : ¬ (1 ≤ words ∧ words ≤ 1024)) (wr : Bool) :
    Calls Tryz.prog 26 #[.pointer (some ⟨I.ss, 0, none⟩), .int .i64 i, .int .u32 va, .int .i64 words, .bool wr] w fun e w' => ∃ er, er ≠ 0 ∧ e = .returned (.int .i64 er) ∧ KeepB w w' ∧ CpS W0 w' I q h G m := by
  obtain ⟨u1, u2, pr, a⟩ := k
  have a' := a
  obtain ⟨c, D, Q, V, k1, _⟩ := a'
  refine (k1.reachBad i va words hw wr fun h => h1 h.2.1).mono ?_
  rintro e w' ⟨⟨er, hne, rfl⟩, hb⟩
  exact ⟨er, hne, rfl, KeepB.below hb, u1, u2, pr, a.step hb⟩
theorem CpP.load (k : CpP W0 w I q h G m i va n) (hT : TwoZ G) (hi : i = 1 ∨ i = 2) (h0 : 0 ≤ va) (h2 : va + n ≤ 96) {j : Nat} (hj : j < n) :
    Calls Tryz.prog 28 #[.pointer (some ⟨I.ss, 0, none⟩), .int .i64 i, .int .u32 (va + j)] w fun e w' => e = .returned (.tuple #[.int .u32 (m i (va + j)), .int .i64 0]) ∧ KeepB w w' ∧ CpP W0 w' I q h G m i va n := by
  obtain ⟨u1, u2, pr, a, hp⟩ := k
  obtain ⟨s, hG, hs⟩ := hT i hi
  have hin : ((va + j) / 32).toNat ∈ pgs va n := (pgs_memZ h0 (by omega)).2 (by omega)
  refine (a.load0 hG (va := va + j) (d := true) (by omega) (by rw [hs, at_ar3, if_pos (by omega)]) (hp _ hin) (x := m i (va + j)) ?_).mono ?_
  · unfold rdM
    congr 1
    omega
  · rintro e w' ⟨rfl, hk, b⟩
    exact ⟨rfl, hk, u1, u2, pr, b, hp⟩
theorem CpP.store {f : Nat → Int} {j : Nat} (k : CpP W0 w I q h G (updM m i va f j) i va n) (hT : TwoZ G) (hi : i = 1 ∨ i = 2) (h0 : 0 ≤ va) (h2 : va + n ≤ 96) (hj : j < n) (hf : 0 ≤ f j ∧ f j < 4294967296) :
    Calls Tryz.prog 60 #[.pointer (some ⟨I.ss, 0, none⟩), .int .i64 i, .int .u32 (va + j), .int .u32 (f j)] w fun e w' => e = .returned (.int .i64 0) ∧ KeepB w w' ∧ CpP W0 w' I q h G (updM m i va f (j + 1)) i va n := by
  obtain ⟨u1, u2, pr, a, hp⟩ := k
  obtain ⟨s, hG, hs⟩ := hT i hi
  have hin : ((va + j) / 32).toNat ∈ pgs va n := (pgs_memZ h0 (by omega)).2 (by omega)
  refine (a.store0 hG (va := va + j) (by omega) hf (by rw [hs, at_ar3, if_pos (by omega)]) (hp _ hin)).mono ?_
  rintro e w' ⟨rfl, hk, b⟩
  exact ⟨rfl, hk, u1, u2, pr, b.congr (fun _ _ _ => rfl) fun j' r y _ hy => (updM_step m i va f j h0 hy).symm, hp⟩
end
end Go.Proofs.YtkenipanpimolaaGreatDoor

/- What package copy's calls do to two spaces of three pages, by the words that are seen. Condition: the listed tables read as laid. -/
namespace Go.Proofs.YtkenipanpimolaaGreatDoor
open Go.RowKit Go.Maps
set_option maxRecDepth 100000

section
variable {W0 w : World} {I : SIx} {q h : Nat} {G : Int → Option Pc} {m : Int → Int → Int} {i va : Int} {n : Nat}
theorem CpS.inOk (k : CpS W0 w I q h G m) (hT : TwoZ G) (hr : Room q h i) (hq : q ≤ 60) (h0 : 0 ≤ va) (h1 : 1 ≤ n) (h2 : va + n ≤ 96) :
    Calls Tryz.prog 8 #[.pointer (some ⟨I.ss, 0, none⟩), .int .i64 i, .int .u32 va, .int .i64 (n : Int)] w fun e w' => ∃ v, e = .returned (.tuple #[v, .int .i64 0]) ∧ w'.ownsRow w.heap.size 23 1 v n (seeV (fun j => m i (va + j)) n) ∧ CpS W0 w' I q h G m ∧ KeepB w w' := by
  have hi : i = 1 ∨ i = 2 := by unfold Room at hr; omega
  refine (in_ok h0 (by omega) (fun j => m i (va + j)) (Carry.cpP (q := q) (h := h) (G := G) (m := m) (i := i) (va := va) (n := n) k.below.size) (fun W hb => (k.step hb).reachOk hT hr hq h0 h1 h2 false) (fun V j hj hs => hs.load hT hi h0 h2 hj)).mono ?_
  rintro e w' ⟨v, rfl, ho, hs, hk⟩
  exact ⟨v, rfl, ho, hs.words, hk⟩
/-- What Reach refuses. -/
theorem CpS.reachBadZ (k : CpS W0 w I q h G m) (hT : TwoZ G) (hi : i = 1 ∨ i = 2) (h0 : 0 ≤ va ∧ va < 4294967296) (hn : n ≤ 1024) (h2 : ¬ (1 ≤ n ∧ va + n ≤ 96)) (wr : Bool) :
    Calls Tryz.prog 26 #[.pointer (some ⟨I.ss, 0, none⟩), .int .i64 i, .int .u32 va, .int .i64 (n : Int), .bool wr] w fun e w' => ∃ er, (er ≠ 0 ∧ (1 ≤ n → er = 7)) ∧ e = .returned (.int .i64 er) ∧ KeepB w w' ∧ CpS W0 w' I q h G m := by
  by_cases h1 : 1 ≤ n
  · refine (k.reachFar hT hi h0 h1 hn (fun h => h2 ⟨h1, h⟩) wr).mono ?_
    rintro e w' ⟨rfl, hk, hs⟩
    exact ⟨7, ⟨by decide, fun _ => rfl⟩, rfl, hk, hs⟩
  · refine (k.reachNo (i := i) (va := va) (words := (n : Int)) (by unfold I64; omega) (by omega) wr).mono ?_
    rintro e w' ⟨er, hne, rfl, hk, hs⟩
    exact ⟨er, ⟨hne, fun h => absurd h h1⟩, rfl, hk, hs⟩
theorem CpS.inNo (k : CpS W0 w I q h G m) (hT : TwoZ G) (hi : i = 1 ∨ i = 2) (h0 : 0 ≤ va ∧ va < 4294967296) (hn : n ≤ 1024) (h2 : ¬ (1 ≤ n ∧ va + n ≤ 96)) :
    Calls Tryz.prog 8 #[.pointer (some ⟨I.ss, 0, none⟩), .int .i64 i, .int .u32 va, .int .i64 (n : Int)] w fun e w' => ∃ er, er ≠ 0 ∧ e = .returned (.tuple #[.slice none 0 0, .int .i64 er]) ∧ CpS W0 w' I q h G m ∧ KeepB w w' := by
  refine (in_no (E := fun er => er ≠ 0 ∧ (1 ≤ n → er = 7)) (fun _ h => h.1) (Carry.cpS (q := q) (h := h) (G := G) (m := m) k.below.size) (fun W hb => (k.step hb).reachBadZ hT hi h0 hn h2 false)).mono ?_
  rintro e w' ⟨er, he, rfl, hs, hk⟩
  exact ⟨er, he.1, rfl, hs, hk⟩
theorem CpS.outNo (k : CpS W0 w I q h G m) (hT : TwoZ G) (hi : i = 1 ∨ i = 2) (h0 : 0 ≤ va ∧ va < 4294967296) (hn : n ≤ 1024) (h2 : ¬ (1 ≤ n ∧ va + n ≤ 96)) (a : Option Addr) (c : Nat) :
    Calls Tryz.prog 9 #[.pointer (some ⟨I.ss, 0, none⟩), .int .i64 i, .int .u32 va, .slice a n c] w fun e w' => ∃ er, e = .returned (.int .i64 er) ∧ (er ≠ 0 ∧ (1 ≤ n → er = 7)) ∧ CpS W0 w' I q h G m ∧ KeepB w w' := by
  have hb1 : Below w.heap.size w (w.alloc (.cells #[.slice a n c] 24)) := (Below.refl _ _).alloc (Nat.le_refl _) _
  refine outZ ((put_noZ (E := fun er => er ≠ 0 ∧ (1 ≤ n → er = 7)) (fun _ h => h.1) _ _ (Carry.cpS (q := q) (h := h) (G := G) (m := m) (k.step hb1).below.size) (fun W hb => ((k.step hb1).step hb).reachBadZ hT hi h0 hn h2 true)).mono ?_)
  rintro e w' ⟨er, he, rfl, hs, hk⟩
  exact ⟨er, rfl, he, hs, (KeepB.below hb1).trans hk⟩
theorem CpS.outOk (k : CpS W0 w I q h G m) (hT : TwoZ G) (hr : Room q h i) (hq : q ≤ 60) (h0 : 0 ≤ va) (h1 : 1 ≤ n) (h2 : va + n ≤ 96) {b o : Nat} (c : Nat) {f : Nat → Int} (hf : ∀ j, j < n → 0 ≤ f j ∧ f j < 4294967296)
    (hcell : ∀ V j, j < n → KeepB w V → Below W0.heap.size W0 V → V.cell? ⟨b, o + j, none⟩ = some (.int .u32 (f j))) :
    Calls Tryz.prog 9 #[.pointer (some ⟨I.ss, 0, none⟩), .int .i64 i, .int .u32 va, .slice (some ⟨b, o, none⟩) n c] w fun e w' => e = .returned (.int .i64 0) ∧ CpS W0 w' I q h G (updM m i va f n) ∧ KeepB w w' := by
  have hi : i = 1 ∨ i = 2 := by unfold Room at hr; omega
  have hb1 : Below w.heap.size w (w.alloc (.cells #[.slice (some ⟨b, o, none⟩) n c] 24)) := (Below.refl _ _).alloc (Nat.le_refl _) _
  refine (outZ (E := fun er w' => er = 0 ∧ CpS W0 w' I q h G (updM m i va f n) ∧ KeepB w w') ((put_okZ h0 (by omega) f 29 #[.pointer (some ⟨w.heap.size, 0, none⟩)] enters_Out1 (S := fun j V => CpP W0 V I q h G (updM m i va f j) i va n) (fun j => Carry.cpP (k.step hb1).below.size) (fun W hb => ?_) (fun V j hj hs hk => ?_) (fun V j hj hs => hs.store hT hi h0 h2 hj (hf j hj))).mono ?_)).mono ?_
  · rw [updM_zero]
    exact ((k.step hb1).step hb).reachOk hT hr hq h0 h1 h2 true
  · exact tellOut hj (cell_of_one (hk.box (heap_alloc_new w _) (by decide))) (hcell V j hj ((KeepB.below hb1).trans hk) hs.words.below)
  · rintro e w' ⟨rfl, hs, hk⟩
    exact ⟨0, rfl, rfl, hs.words, (KeepB.below hb1).trans hk⟩
  · rintro e w' ⟨er, rfl, rfl, hs, hk⟩
    exact ⟨rfl, hs, hk⟩
theorem CpS.fillOk (k : CpS W0 w I q h G m) (hT : TwoZ G) (hr : Room q h i) (hq : q ≤ 60) (h0 : 0 ≤ va) (h1 : 1 ≤ n) (h2 : va + n ≤ 96) {x : Int} (hx : 0 ≤ x ∧ x < 4294967296) :
    Calls Tryz.prog 7 #[.pointer (some ⟨I.ss, 0, none⟩), .int .i64 i, .int .u32 va, .int .i64 (n : Int), .int .u32 x] w fun e w' => e = .returned (.int .i64 0) ∧ CpS W0 w' I q h G (updM m i va (fun _ => x) n) ∧ KeepB w w' := by
  have hi : i = 1 ∨ i = 2 := by unfold Room at hr; omega
  have hb1 : Below w.heap.size w (w.alloc (.cells #[.int .u32 x] 23)) := (Below.refl _ _).alloc (Nat.le_refl _) _
  refine (fillZ (E := fun er w' => er = 0 ∧ CpS W0 w' I q h G (updM m i va (fun _ => x) n) ∧ KeepB w w') ((put_okZ h0 (by omega) (fun _ => x) 25 #[.pointer (some ⟨w.heap.size, 0, none⟩)] enters_Fill1 (S := fun j V => CpP W0 V I q h G (updM m i va (fun _ => x) j) i va n) (fun j => Carry.cpP (k.step hb1).below.size) (fun W hb => ?_) (fun V j hj hs hk => ?_) (fun V j hj hs => hs.store hT hi h0 h2 hj hx)).mono ?_)).mono ?_
  · rw [updM_zero]
    exact ((k.step hb1).step hb).reachOk hT hr hq h0 h1 h2 true
  · exact tellFill (cell_of_one (hk.box (heap_alloc_new w _) (by decide)))
  · rintro e w' ⟨rfl, hs, hk⟩
    exact ⟨0, rfl, rfl, hs.words, (KeepB.below hb1).trans hk⟩
  · rintro e w' ⟨er, rfl, rfl, hs, hk⟩
    exact ⟨rfl, hs, hk⟩
end
/-! Where there are no spaces. -/
section
variable {w : World} {i va : Int}
theorem inNil (n : Int) : Calls Tryz.prog 8 #[.pointer none, .int .i64 i, .int .u32 va, .int .i64 n] w fun e w' => e = .returned (.tuple #[.slice none 0 0, .int .i64 1]) ∧ Below w.heap.size w w' := by
  refine (in_no (E := fun er => er = 1) (fun _ h => by rw [h]; decide) (Carry.below w) (fun W hb => (reachNo none i va n false W (Or.inl rfl)).mono ?_)).mono ?_
  · rintro e w' ⟨rfl, hb2⟩
    exact ⟨1, rfl, rfl, KeepB.below hb2, hb.trans (hb2.mono hb.size)⟩
  · rintro e w' ⟨er, rfl, rfl, hs, _⟩
    exact ⟨rfl, hs⟩
theorem putNil (n : Int) (tg : Nat) (caps : Array Value) (w : World) : Calls Tryz.prog 24 #[.pointer none, .int .i64 i, .int .u32 va, .int .i64 n, .func (.func tg) #[] caps] w fun e w' => e = .returned (.int .i64 1) ∧ Below w.heap.size w w' := by
  refine (put_noZ (E := fun er => er = 1) (fun _ h => by rw [h]; decide) tg caps (Carry.below w) (fun W hb => (reachNo none i va n true W (Or.inl rfl)).mono ?_)).mono ?_
  · rintro e w' ⟨rfl, hb2⟩
    exact ⟨1, rfl, rfl, KeepB.below hb2, hb.trans (hb2.mono hb.size)⟩
  · rintro e w' ⟨er, rfl, rfl, hs, _⟩
    exact ⟨rfl, hs⟩
theorem outNil (a : Option Addr) (n c : Nat) : Calls Tryz.prog 9 #[.pointer none, .int .i64 i, .int .u32 va, .slice a n c] w fun e w' => e = .returned (.int .i64 1) ∧ Below w.heap.size w w' := by
  have hb1 : Below w.heap.size w (w.alloc (.cells #[.slice a n c] 24)) := (Below.refl _ _).alloc (Nat.le_refl _) _
  refine (outZ (E := fun er w' => er = 1 ∧ Below w.heap.size w w') ((putNil (n : Int) _ _ _).mono ?_)).mono ?_
  · rintro e w' ⟨rfl, hb⟩
    exact ⟨1, rfl, rfl, hb1.trans (hb.mono hb1.size)⟩
  · rintro e w' ⟨er, rfl, rfl, hs⟩
    exact ⟨rfl, hs⟩
theorem fillNil (n x : Int) : Calls Tryz.prog 7 #[.pointer none, .int .i64 i, .int .u32 va, .int .i64 n, .int .u32 x] w fun e w' => e = .returned (.int .i64 1) ∧ Below w.heap.size w w' := by
  have hb1 : Below w.heap.size w (w.alloc (.cells #[.int .u32 x] 23)) := (Below.refl _ _).alloc (Nat.le_refl _) _
  refine (fillZ (E := fun er w' => er = 1 ∧ Below w.heap.size w w') ((putNil n _ _ _).mono ?_)).mono ?_
  · rintro e w' ⟨rfl, hb⟩
    exact ⟨1, rfl, rfl, hb1.trans (hb.mono hb1.size)⟩
  · rintro e w' ⟨er, rfl, rfl, hs⟩
    exact ⟨rfl, hs⟩
end
end Go.Proofs.YtkenipanpimolaaGreatDoor
