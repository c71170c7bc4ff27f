/- Texts of mine, joined: S51 S52 S53 S54. What each says and under which conditions stands at its head, below. -/
import Derived.Test.YtfpcoomkbmfchaaGreatDoorHV
import Derived.Test.YtfpcoomkbmfchaaGreatDoorHN
import Derived.Test.YtfpcoomkbmfchaaGreatDoorHM
import Derived.BigQuiet
/- What the laws' used tells. Condition: the listed tables read as laid. -/
namespace Go.Proofs.YtfpcoomkbmfchaaGreatDoor
open Go.RowKit Go.Maps
set_option maxRecDepth 100000

theorem atN_first {i : Int} : ∀ {L : List Nd} {k : Nat}, k < L.length → (∀ j, j < k → (L.getD j default).1 ≠ i) → (L.getD k default).1 = i → atN i L = some (L.getD k default)
  | [], k, hk, _, _ => absurd hk (by simp)
  | n :: r, 0, _, _, h => by
    rw [atN, if_pos (by simpa using h)]; rfl
  | n :: r, k + 1, hk, h0, h => by
    have h1 : n.1 ≠ i := by simpa using h0 0 (by omega)
    rw [atN, if_neg h1]
    simp only [List.getD_cons_succ] at h ⊢
    exact atN_first (by simpa using hk) (fun j hj => by simpa using h0 (j + 1) (by omega)) h
theorem atN_no {i : Int} : ∀ {L : List Nd}, (∀ j, j < L.length → (L.getD j default).1 ≠ i) → atN i L = none
  | [], _ => rfl
  | n :: r, h => by
    have h1 : n.1 ≠ i := by simpa using h 0 (by simp)
    rw [atN, if_neg h1]
    exact atN_no fun j hj => by simpa using h (j + 1) (by simpa using hj)
/-- What a container uses. -/
def useI (L : List Nd) (i : Int) : Int := match atN i L with
  | none => 0
  | some n => n.2.2.2
section
variable {W0 w : World} {I : SIx} {q : Nat} {Lb : List Nd} {G : Int → Option Pc} {pr : Int → Nat → Bool} {rd : Int → Nat → Nat → Int}
set_option maxHeartbeats 2000000 in
theorem Hv.use (h : Hv W0 w I q Lb G pr rd) (i : Int) : Calls Tryz.prog 34 #[.pointer (some ⟨I.bb, 0, none⟩), .int .i64 i] w fun e w' => e = .returned (.int .i64 (useI Lb i)) ∧ Below w.heap.size w w' := by
  obtain ⟨cc, D, Q, V, h1, _⟩ := h
  have AL := Lib.hid h1.bl.allB
  have hlen : Lb.length ≤ 8 := h1.j.tree.good.len
  obtain ⟨n, hn⟩ : ∃ n, n = Lb.length := ⟨_, rfl⟩
  have HN := Lib.hid hn
  have h8 : n ≤ 8 := by omega
  clear h1 hlen hn
  go_enter Tryz.func34, Tryz.ntmps34
  go_wp2_with fail
  refine AL.out.mono ?_
  rintro e w1 ⟨v, rfl, ho, hb⟩
  have B1 := Lib.hid hb
  obtain ⟨a, cp, rfl, hg⟩ := NdSl.of_row ho
  have HG := Lib.hid hg
  rw [← HN.out]
  clear ho hb hg
  go_wp2_with fail
  go_loopw [6] (fun s wr => ∃ k : Nat, s = .int .i64 (k : Int) ∧ k ≤ n ∧ (∀ j, j < k → (Lb.getD j default).1 ≠ i) ∧ Below w1.heap.size w1 wr) (fun s _ => (n - (intOf s).toNat))
  case atStart => exact ⟨0, rfl, Nat.zero_le _, fun j hj => absurd hj (by omega), Below.refl _ _⟩
  case round =>
    obtain ⟨k, rfl, hk, h0, hB⟩ := hrel
    have H0 := Lib.hid h0
    have BR := Lib.hid hB
    by_cases hlt : k < n
    · obtain ⟨g, rfl, hg1, hg2⟩ := HG.out.resolve_left (by intro e; have := HN.out; rw [e] at this; simp at this; omega)
      obtain ⟨c0, _, _, c3⟩ := hg2 k (by have := HN.out; omega)
      have c0 := (hB.cell (p := ⟨g, k * 4, none⟩) hg1).trans c0
      have c3 := (hB.cell (p := ⟨g, k * 4 + 3, none⟩) hg1).trans c3
      by_cases he : (Lb.getD k default).1 = i
      · have U : Hid (useI Lb i = (Lb.getD k default).2.2.2) := Lib.hid (by
          unfold useI
          rw [atN_first (by have := HN.out; omega) h0 he])
        generalize Lb.getD k default = nd at c0 c3 he U
        obtain ⟨x0, x1, x2, x3⟩ := nd
        simp only at c0 c3 he U
        have e1 : (x0 == i) = true := by simpa using he
        clear h0 hB hg1 hg2
        go_wp2_with fail
        go_ret
        exact ⟨by rw [U.out]; rfl, B1.out.trans (BR.out.mono B1.out.size)⟩
      · have e1 : ((Lb.getD k default).1 == i) = false := by simpa using he
        have NE := Lib.hid he
        generalize hnd : Lb.getD k default = nd at c0 c3 e1
        have HD := Lib.hid hnd
        obtain ⟨x0, x1, x2, x3⟩ := nd
        simp only at c0 c3 e1
        clear h0 hB hg1 hg2 hnd he
        go_wp2_with fail
        go_roundw
        case rel => exact ⟨k + 1, by go_num, by omega, fun j hj => by
          rcases (show j < k ∨ j = k by omega) with hj | rfl
          · exact H0.out j hj
          · exact NE.out, BR.out⟩
        case measure => simp [intOf]; omega
    · obtain rfl : k = n := by omega
      have U : Hid (useI Lb i = 0) := Lib.hid (by
        unfold useI
        rw [atN_no fun j hj => h0 j (by have := HN.out; omega)])
      clear h0 hB
      go_wp2_with fail
      go_ret
      exact ⟨by rw [U.out]; rfl, B1.out.trans (BR.out.mono B1.out.size)⟩
end
end Go.Proofs.YtfpcoomkbmfchaaGreatDoor

/- What pages cost, told by a list of them in order. Lists alone. -/
namespace Go.Proofs.YtfpcoomkbmfchaaGreatDoor
set_option maxRecDepth 100000

/-- Is the page at a place the first one of its table? -/
def newK (L : List Nat) (k : Nat) : Bool := decide (k = 0) || decide (L.getD (k - 1) 0 / 32 ≠ L.getD k 0 / 32)
def upTo (b : Nat → Bool) (m : Nat) : List Nat := (List.range m).filter b
theorem upTo_succ (b : Nat → Bool) (m : Nat) : upTo b (m + 1) = if b m = true then upTo b m ++ [m] else upTo b m := by
  unfold upTo
  rw [List.range_succ, List.filter_append]
  by_cases h : b m = true
  · simp [h]
  · simp [h]
theorem mem_upTo {b : Nat → Bool} {m p : Nat} : p ∈ upTo b m ↔ p < m ∧ b p = true := by simp [upTo]
theorem last_upTo (b : Nat → Bool) : ∀ m, upTo b m ≠ [] → (∀ p, p < m → b p = true → p ≤ (upTo b m).getD ((upTo b m).length - 1) 0) ∧ (upTo b m).getD ((upTo b m).length - 1) 0 ∈ upTo b m
  | 0, h => absurd rfl h
  | m + 1, h => by
    rw [upTo_succ] at h ⊢
    by_cases hb : b m = true
    · rw [if_pos hb]
      have e : (upTo b m ++ [m]).getD ((upTo b m ++ [m]).length - 1) 0 = m := by simp [List.getD_eq_getElem?_getD]
      rw [e]
      exact ⟨fun p hp _ => by omega, by simp⟩
    · rw [if_neg hb] at h ⊢
      obtain ⟨h1, h2⟩ := last_upTo b m h
      refine ⟨fun p hp hbp => ?_, h2⟩
      rcases (show p < m ∨ p = m by omega) with hp | rfl
      · exact h1 p hp hbp
      · exact absurd hbp hb
/-- Tables that have a page below one. -/
def hasQ (b : Nat → Bool) (m t : Nat) : Bool := (List.range m).any fun p => decide (p / 32 = t) && b p
theorem hasQ_iff {b : Nat → Bool} {m t : Nat} : hasQ b m t = true ↔ ∃ p, p < m ∧ p / 32 = t ∧ b p = true := by simp [hasQ]
theorem newK_last (b : Nat → Bool) (m : Nat) : newK (upTo b m ++ [m]) (upTo b m).length = !hasQ b m (m / 32) := by
  have e1 : (upTo b m ++ [m]).getD (upTo b m).length 0 = m := by simp [List.getD_eq_getElem?_getD]
  unfold newK
  rw [e1]
  by_cases h0 : upTo b m = []
  · have hq : hasQ b m (m / 32) = false := by
      cases hq : hasQ b m (m / 32) with
      | false => rfl
      | true =>
        obtain ⟨p, hp, _, hb⟩ := hasQ_iff.1 hq
        have : p ∈ upTo b m := mem_upTo.2 ⟨hp, hb⟩
        rw [h0] at this; cases this
    rw [hq, h0]; rfl
  · obtain ⟨h1, h2⟩ := last_upTo b m h0
    have hlen : (upTo b m).length ≠ 0 := fun e => h0 (List.eq_nil_of_length_eq_zero e)
    have e2 : (upTo b m ++ [m]).getD ((upTo b m).length - 1) 0 = (upTo b m).getD ((upTo b m).length - 1) 0 := by
      rw [List.getD_eq_getElem?_getD, List.getD_eq_getElem?_getD, List.getElem?_append_left (by omega)]
    rw [e2, decide_eq_false hlen, Bool.false_or]
    generalize (upTo b m).getD ((upTo b m).length - 1) 0 = z at h1 h2
    obtain ⟨hz1, hz2⟩ := mem_upTo.1 h2
    cases hq : hasQ b m (m / 32) with
    | true =>
      obtain ⟨p, hp, ht, hb⟩ := hasQ_iff.1 hq
      have := h1 p hp hb
      simp; omega
    | false =>
      have : z / 32 ≠ m / 32 := fun e => by
        have : hasQ b m (m / 32) = true := hasQ_iff.2 ⟨z, hz1, e, hz2⟩
        rw [hq] at this; cases this
      simp [this]
theorem newK_pre (L : List Nat) (m k : Nat) (h : k < L.length) : newK (L ++ [m]) k = newK L k := by
  unfold newK
  have e : ∀ j, j < L.length → (L ++ [m]).getD j 0 = L.getD j 0 := fun j hj => by
    rw [List.getD_eq_getElem?_getD, List.getD_eq_getElem?_getD, List.getElem?_append_left hj]
  rw [e k h, e (k - 1) (by omega)]
theorem newK_cnt (b : Nat → Bool) : ∀ m, m ≤ 1024 → cntR (newK (upTo b m)) (upTo b m).length = cntR (hasQ b m) 32
  | 0, _ => by
    rw [cntR_zero (b := hasQ b 0) fun y _ => rfl]; rfl
  | m + 1, hm => by
    have ih := newK_cnt b m (by omega)
    rw [upTo_succ]
    by_cases hb : b m = true
    · rw [if_pos hb, show (upTo b m ++ [m]).length = (upTo b m).length + 1 by simp, cntR_succ, newK_last, cntR_congr fun k hk => newK_pre _ m k hk, ih]
      have ho : ∀ y, y ≠ m / 32 → hasQ b (m + 1) y = hasQ b m y := fun y hy => by
        rw [Bool.eq_iff_iff, hasQ_iff, hasQ_iff]
        constructor
        · rintro ⟨p, hp, ht, hbp⟩
          exact ⟨p, by
            rcases (show p < m ∨ p = m by omega) with h | rfl
            · exact h
            · exact absurd ht.symm hy, ht, hbp⟩
        · rintro ⟨p, hp, ht, hbp⟩
          exact ⟨p, by omega, ht, hbp⟩
      have hu := cntR_upd (b := hasQ b m) (d := hasQ b (m + 1)) (x := m / 32) ho (k := 32) (by omega)
      have hy : hasQ b (m + 1) (m / 32) = true := hasQ_iff.2 ⟨m, by omega, rfl, hb⟩
      rw [hy, if_pos rfl] at hu
      cases hq : hasQ b m (m / 32) with
      | true => rw [hq] at hu; simp at hu ⊢; omega
      | false => rw [hq] at hu; simp at hu ⊢; omega
    · rw [if_neg hb, ih]
      refine cntR_congr fun t _ => ?_
      rw [Bool.eq_iff_iff, hasQ_iff, hasQ_iff]
      constructor
      · rintro ⟨p, hp, ht, hbp⟩
        exact ⟨p, by omega, ht, hbp⟩
      · rintro ⟨p, hp, ht, hbp⟩
        refine ⟨p, ?_, ht, hbp⟩
        rcases (show p < m ∨ p = m by omega) with h | rfl
        · exact h
        · exact absurd hbp hb
/-- What pages cost, with their tables, and the root. -/
theorem cost_pgL (b : Nat → Bool) : 1 + (pgL b).length + cntR (newK (pgL b)) (pgL b).length = costP b := by
  have h1 := newK_cnt b 1024 (Nat.le_refl _)
  have h2 : cntR (hasQ b 1024) 32 = cntR (hasP b) 32 := cntR_congr fun t ht => by
    rw [Bool.eq_iff_iff, hasQ_iff, hasP_iff]
    constructor
    · rintro ⟨p, hp, ht, hb⟩
      exact ⟨p % 32, by omega, by rw [show 32 * t + p % 32 = p by omega]; exact hb⟩
    · rintro ⟨j, hj, hb⟩
      exact ⟨32 * t + j, by omega, by omega, hb⟩
  have h3 : pgL b = upTo b 1024 := rfl
  rw [h3, h1, h2]
  show 1 + (upTo b 1024).length + cntR (hasP b) 32 = 1 + cntR (hasP b) 32 + cntR b 1024
  have h4 : (upTo b 1024).length = cntR b 1024 := rfl
  omega
end Go.Proofs.YtfpcoomkbmfchaaGreatDoor

/- What the laws' cost tells. Condition: none but the row's own. -/
namespace Go.Proofs.YtfpcoomkbmfchaaGreatDoor
open Go.RowKit Go.Maps
set_option maxRecDepth 100000

set_option maxHeartbeats 4000000 in
theorem cost_row (L : List Nat) (v : Value) (w : World) (hl : L.length ≤ 1024) (h32 : ∀ p ∈ L, p < 1024) (hv : PgsAt w v L) : Calls Tryz.prog 35 #[v] w fun e w' => e = .returned (.int .i64 ((1 + L.length + cntR (newK L) L.length : Nat) : Int)) ∧ Below w.heap.size w w' := by
  obtain ⟨a, c, rfl, hc⟩ := hv
  obtain ⟨n, hn⟩ : ∃ n, n = L.length := ⟨_, rfl⟩
  have HN := Lib.hid hn
  have HC := Lib.hid hc
  have H32 := Lib.hid h32
  rw [← hn] at hl ⊢
  have CN : Hid (∀ k, cntR (newK L) k ≤ k) := Lib.hid fun k => by
    unfold cntR
    have := List.length_filter_le (newK L) (List.range k)
    rwa [List.length_range] at this
  clear hn hc h32
  have b0 : -9223372036854775808 ≤ (1 : Int) + (n : Int) := by omega
  have b1 : (1 : Int) + (n : Int) ≤ 9223372036854775807 := by omega
  go_enter Tryz.func35, Tryz.ntmps35
  go_wp2_with fail
  clear b0 b1
  go_loopw [3, 4] (fun s i wr => ∃ k : Nat, i = .int .i64 (k : Int) ∧ k ≤ n ∧ s = .int .i64 ((1 + n + cntR (newK L) k : Nat) : Int) ∧ Below w.heap.size w wr) (fun _ i _ => (n - (intOf i).toNat))
  case atStart => exact ⟨0, rfl, Nat.zero_le _, by rw [show ((1 + n + cntR (newK L) 0 : Nat) : Int) = (1 : Int) + (n : Int) by simp [cntR]], Below.refl _ _⟩
  case round =>
    obtain ⟨k, rfl, hk, rfl, hB⟩ := hrel
    have BR := Lib.hid hB
    by_cases hlt : k < n
    · obtain ⟨g, cs, rfl, hg, hcs⟩ := HC.out.resolve_left (by intro e; have := HN.out; rw [e] at this; simp at this; omega)
      have hgl := lt_of_block hg
      have ce : ∀ j, j < n → wr.cell? ⟨g, j, none⟩ = some (.int .i64 ((L.getD j 0 : Nat) : Int)) := fun j hj => by
        rw [(hB.cell (p := ⟨g, j, none⟩) hgl), cell_of_row _ _ _ _ _ _ hg]; exact hcs j (by have := HN.out; omega)
      have CS := Lib.hid (cntR_succ (newK L) k)
      have CK := Lib.hid (CN.out k)
      have ck := ce k hlt
      obtain ⟨S, hS⟩ : ∃ S, S = 1 + n + cntR (newK L) k := ⟨_, rfl⟩
      have hS3 : S ≤ 3000 := by have := CK.out; omega
      have SS := Lib.hid hS
      rw [← hS]
      clear hS
      by_cases h0 : k = 0
      · subst h0
        have SN : Hid (1 + n + cntR (newK L) (0 + 1) = S + 1) := Lib.hid (by rw [CS.out, show newK L 0 = true from rfl, if_pos rfl, SS.out]; omega)
        clear ce hg hcs hB
        go_wp2_with fail
        go_quiet (fail)
        go_wp2_with fail
        go_roundw
        case rel => exact ⟨1, by go_num, by omega, by rw [show (1 : Nat) = 0 + 1 from rfl, SN.out]; go_num, below_drewN BR.out nq⟩
        case measure => simp [intOf]; omega
      · have cj := ce (k - 1) (by omega)
        have e0 : ((k : Int) == 0) = false := by simpa using h0
        have e1 : IntKind.i64.wrap ((k : Int) - 1) = ((k - 1 : Nat) : Int) := by
          rw [show (k : Int) - 1 = ((k - 1 : Nat) : Int) by omega]; exact IntWalk.i64_in _ (by omega)
        have hq : ∀ j, j < n → L.getD j 0 < 1024 := fun j hj => H32.out _ (by
          rw [List.getD_eq_getElem?_getD, List.getElem?_eq_getElem (by have := HN.out; omega)]; exact List.getElem_mem _)
        have hx := hq k hlt
        have hy := hq (k - 1) (by omega)
        have NK : Hid (newK L k = decide (L.getD (k - 1) 0 / 32 ≠ L.getD k 0 / 32)) := Lib.hid (by unfold newK; rw [decide_eq_false h0, Bool.false_or])
        generalize L.getD k 0 = px at ck hx NK
        generalize L.getD (k - 1) 0 = py at cj hy NK
        have t1 : (px : Int).tdiv 32 = ((px / 32 : Nat) : Int) := by rw [Int.tdiv_eq_ediv_of_nonneg (by omega)]; omega
        have t2 : (py : Int).tdiv 32 = ((py / 32 : Nat) : Int) := by rw [Int.tdiv_eq_ediv_of_nonneg (by omega)]; omega
        have d1 : IntKind.i64.wrap ((px / 32 : Nat) : Int) = ((px / 32 : Nat) : Int) := IntWalk.i64_in _ (by omega)
        have d2 : IntKind.i64.wrap ((py / 32 : Nat) : Int) = ((py / 32 : Nat) : Int) := IntWalk.i64_in _ (by omega)
        clear ce hg hcs hB hq
        by_cases he : py / 32 = px / 32
        · have SN : Hid (1 + n + cntR (newK L) (k + 1) = S) := Lib.hid (by rw [CS.out, NK.out, decide_eq_false (fun h => h he), if_neg (by decide), SS.out]; omega)
          have e2 : (wrap64 ((py : Int) / 32) != wrap64 ((px : Int) / 32)) = false := by
            rw [show (py : Int) / 32 = (px : Int) / 32 by omega]; simp
          go_wp2_with fail
          go_quiet (fail)
          go_wp2_with fail
          go_roundw
          all_goals first
            | exact ⟨k + 1, by go_num, by omega, by rw [SN.out], below_drewN BR.out nq⟩
            | (refine ⟨⟨k + 1, by go_num, by omega, by rw [SN.out], below_drewN BR.out nq⟩, ?_⟩; simp [intOf]; omega)
            | (simp [intOf]; omega)
        · have SN : Hid (1 + n + cntR (newK L) (k + 1) = S + 1) := Lib.hid (by rw [CS.out, NK.out, decide_eq_true he, if_pos rfl, SS.out]; omega)
          have e2 : (wrap64 ((py : Int) / 32) != wrap64 ((px : Int) / 32)) = true := by
            rw [show wrap64 ((py : Int) / 32) = (py : Int) / 32 by unfold wrap64; omega, show wrap64 ((px : Int) / 32) = (px : Int) / 32 by unfold wrap64; omega]
            simp only [bne_iff_ne, ne_eq]; omega
          go_wp2_with fail
          go_quiet (fail)
          go_wp2_with fail
          go_roundw
          case rel => exact ⟨k + 1, by go_num, by omega, by rw [SN.out]; go_num, below_drewN BR.out nq⟩
          case measure => simp [intOf]; omega
    · obtain rfl : k = n := by omega
      clear hB
      go_wp2_with fail
      go_ret
      exact ⟨rfl, BR.out⟩
end Go.Proofs.YtfpcoomkbmfchaaGreatDoor

/- The round of the law SpaceCost, in parts. Condition: the listed tables lie as laid. -/
namespace Go.Proofs.YtfpcoomkbmfchaaGreatDoor
open Go.RowKit Go.Maps
set_option maxRecDepth 100000

theorem need_two (b : Nat → Bool) (p : Nat) : needP b [p] ≤ 2 := by
  rw [needP]
  have : newP b p ≤ 1 := by unfold newP; split <;> omega
  split
  · simp [needP]
  · simp [needP]; omega
theorem charge_oneL {q u k : Int} (h0 : 0 ≤ k ∧ k ≤ 65536) (h : k ≤ q - u) : chargeEU (oneL q u) 1 k = 0 ∧ chargeL (oneL q u) 1 k = oneL q (u + k) := by
  have e : chargeEU (oneL q u) 1 k = 0 := chargeEU_zero.2 ⟨fitB_iff.2 ⟨by omega, h0⟩, ⟨_, rfl⟩, by rw [left_one]; omega⟩
  refine ⟨e, ?_⟩
  unfold chargeL
  rw [if_pos e]; rfl
theorem charge_full {q u k : Int} (h0 : 0 ≤ k ∧ k ≤ 65536) (h : q - u < k) : chargeEU (oneL q u) 1 k = 3 := by
  unfold chargeEU
  rw [if_pos (fitB_iff.2 ⟨by omega, h0⟩), if_neg (by simp [atN]), left_one, if_pos h]
section
variable {W0 w : World} {I : SIx} {q : Nat} {G : Int → Option Pc} {pr : Int → Nat → Bool} {rd : Int → Nat → Nat → Int}
theorem costP_pos (b : Nat → Bool) : 1 ≤ costP b := by unfold costP; omega
theorem Hv.useOne {u : Int} (h : Hv W0 w I q (oneL q u) G pr rd) {s : Pc} (hG : G 1 = some s) : u = (costP (pr 1) : Int) := by
  have h1 := h.used hG
  have h2 : u.toNat = costP (pr 1) := h1
  have := costP_pos (pr 1)
  omega
/-- What a store answers: where there is no such page, where it is full, else. -/
theorem cost_er {u x : Int} (hx : 0 ≤ x) : (32768 ≤ x ∧ reachP [(0, 1024, true)] (oneL q u) (pr 1) 1 x 1 true = 7) ∨ (x < 32768 ∧ (q : Int) - u < needP (pr 1) [(x / 32).toNat] ∧ reachP [(0, 1024, true)] (oneL q u) (pr 1) 1 x 1 true = 3) ∨ (x < 32768 ∧ (needP (pr 1) [(x / 32).toNat] : Int) ≤ (q : Int) - u ∧ reachP [(0, 1024, true)] (oneL q u) (pr 1) 1 x 1 true = 0) := by
  by_cases h : 32768 ≤ x
  · left; refine ⟨h, ?_⟩; unfold reachP; rw [if_pos h]
  · have h2 := need_two (pr 1) (x / 32).toNat
    have hat : atD [(0, 1024, true)] ((x / 32).toNat : Int) = some true := area_at1 (by omega)
    have hm : mayL [(0, 1024, true)] true [(x / 32).toNat] = 0 := by rw [mayL, hat]; rfl
    by_cases hl : (q : Int) - u < needP (pr 1) [(x / 32).toNat]
    · right; left
      refine ⟨by omega, hl, ?_⟩
      unfold reachP
      rw [if_neg h, pgs_one, if_neg (fun h => h hm), charge_full (by omega) hl]
    · right; right
      refine ⟨by omega, by omega, ?_⟩
      unfold reachP
      rw [if_neg h, pgs_one, if_neg (fun h => h hm), (charge_oneL (by omega) (by omega)).1]
/-- What the laws' cost tells of what is mapped. -/
theorem costs_ok (b : Nat → Bool) {v : Value} (hv : PgsAt w v (pgL b)) : Calls Tryz.prog 35 #[v] w fun e w' => e = .returned (.int .i64 (costP b : Int)) ∧ Below w.heap.size w w' := by
  have := cost_row (pgL b) v w (by unfold pgL; exact Nat.le_trans (List.length_filter_le _ _) (by simp)) (fun p hp => ((mem_pgL _ p).1 hp).1) hv
  rwa [cost_pgL] at this
end
end Go.Proofs.YtfpcoomkbmfchaaGreatDoor
