/- The walk of the law CopyBack. Condition: the listed tables lie as laid. -/
import Derived.Test.YtkenipanpimolaaGreatDoorID
import Derived.Test.YtkenipanpimolaaGreatDoorHY
namespace Go.Proofs.YtkenipanpimolaaGreatDoor
open Go.RowKit Go.Maps
set_option maxRecDepth 100000

theorem seeV_set {f f' : Nat → Int} {n j : Nat} {x : Int} (hj : f' j = x) (h : ∀ k, k ≠ j → f' k = f k) : (seeV f n).set j (.int .u32 x) = seeV f' n := by
  refine List.ext_getElem (by simp [seeV]) fun i h1 h2 => ?_
  rw [List.getElem_set]
  simp only [seeV, List.getElem_map, List.getElem_range]
  by_cases e : j = i
  · subst e; rw [if_pos rfl, hj]
  · rw [if_neg e, h i (fun e2 => e e2.symm)]
theorem row_formZ {w : World} {base n q : Nat} {e : TypeId} {v : Value} {xs : List Value} (h : w.ownsRow base e q v n xs) (hn : 0 < n) : ∃ g c, v = .slice (some ⟨g, 0, none⟩) n c := by
  rcases h.2 with ⟨_, h0⟩ | ⟨g, cap, cur, rfl, _⟩
  · omega
  · exact ⟨g, cap, rfl⟩
/-- The law's own row, beside spaces. -/
theorem CpS.ownRow {W0 w w' : World} {I : SIx} {q h : Nat} {G : Int → Option Pc} {m : Int → Int → Int} (k : CpS W0 w I q h G m) {g : Nat} {cs : Array Value} (hb : w.heap[g]? = some (.cells cs 23 (0, 0))) (hn : W0.heap.size ≤ g) (hA : ArN G g) (hg : w.grownBy w' (some g)) : CpS W0 w' I q h G m := by
  obtain ⟨u1, u2, pr, a⟩ := k
  exact ⟨u1, u2, pr, a.own hb hn hA hg⟩
theorem CpS.arN {W0 w : World} {I : SIx} {q h : Nat} {G : Int → Option Pc} {m : Int → Int → Int} (k : CpS W0 w I q h G m) : ArN G w.heap.size := by
  obtain ⟨u1, u2, pr, a⟩ := k
  exact a.arN
theorem copyBack_far (pid va : Int) (a : Option Addr) (n c : Nat) (t : Bool) (W : World) (hL : LaidN W) (h : 100 < n ∨ ¬ (1 ≤ pid ∧ pid ≤ 2)) : Calls Tryz.prog 3 #[.int .i64 pid, .int .u32 va, .slice a n c, .bool t] W fun e w' => e = .returned (.bool true) ∧ Below W.heap.size W w' := by
  have AW := Lib.hid (hL.awake17 W (Below.refl _ _))
  clear hL
  have h' : ((100 : Int) < (n : Int)) ∨ (¬ (100 : Int) < (n : Int) ∧ pid < 1) ∨ (¬ (100 : Int) < (n : Int) ∧ ¬ pid < 1 ∧ 2 < pid) := by omega
  clear h
  rcases h' with h1 | ⟨h1, h2⟩ | ⟨h1, h2, h3⟩
  all_goals
    go_enter Tryz.func3, Tryz.ntmps3
    go_wp2_with fail
    refine AW.out.mono ?_
    rintro e w1 ⟨rfl, hb⟩
    have B1 := Lib.hid hb
    clear hb
    go_wp2
    go_ret
    exact ⟨rfl, B1.out⟩
/-- What the law keeps while it lays the words that it wants. -/
structure LpB (W w6 : World) (I : SIx) (G : Int → Option Pc) (m m' : Int → Int → Int) (pid va : Int) (f : Nat → Int) (g c k : Nat) (wr : World) : Prop where
  cs : CpS W wr I 60 20 G m'
  kb : KeepB w6 wr
  row : wr.ownsRow w6.heap.size 23 1 (.slice (some ⟨g, 0, none⟩) 96 c) 96 (seeV (fun j => updM m pid va f k pid (0 + j)) 96)
theorem LpB.put {W w6 wr : World} {I : SIx} {G : Int → Option Pc} {m m' : Int → Int → Int} {pid va : Int} {f : Nat → Int} {g c k p : Nat} (h : LpB W w6 I G m m' pid va f g c k wr) (hp : va + (k : Int) = (p : Int)) (hW : W.heap.size ≤ w6.heap.size) (hA : ArN G w6.heap.size) : LpB W w6 I G m m' pid va f g c (k + 1) (wr.setCell ⟨g, p, none⟩ (.int .u32 (f k))) := by
  obtain ⟨cs, hcs⟩ := own_block h.row (g := g) rfl
  have hg : w6.heap.size ≤ g := (h.row.lt g rfl).1
  have hgr := grownBy_setCell wr g p (.int .u32 (f k))
  refine ⟨h.cs.ownRow hcs (Nat.le_trans hW hg) (hA.mono hg) hgr, h.kb.ownNew hg hgr, ?_⟩
  have := own_set (j := p) h.row (.int .u32 (f k))
  rwa [seeV_set (f' := fun j => updM m pid va f (k + 1) pid (0 + j)) (by
    show updM m pid va f (k + 1) pid (0 + (p : Int)) = f k
    rw [Int.zero_add, ← hp]
    exact updM_at m pid va f (by omega)) (fun j hj => by
    show updM m pid va f (k + 1) pid (0 + (j : Int)) = updM m pid va f k pid (0 + (j : Int))
    unfold updM
    by_cases e : pid = pid ∧ va ≤ 0 + (j : Int) ∧ 0 + (j : Int) < va + (k : Int)
    · rw [if_pos e, if_pos (by omega)]
    · rw [if_neg e, if_neg (by omega)])] at this
set_option maxHeartbeats 16000000 in
theorem copyBack_in_false {pid va : Int} {a : Option Addr} {n c : Nat} {W : World} {L : List Int} (hl : n = L.length) (hv : ArgWs W (.slice a n c) L) (h100 : n ≤ 100) (hp : pid = 1 ∨ pid = 2) (hva : 0 ≤ va ∧ va ≤ 4294967295) (hn1 : 1 ≤ n) (hfit : va + n ≤ 96) (hL : LaidN W) :
    Calls Tryz.prog 3 #[.int .i64 pid, .int .u32 va, .slice a n c, .bool false] W fun e w' => e = .returned (.bool true) ∧ Below W.heap.size W w' := by
  obtain ⟨a', c', he, hL4, hcell⟩ := hv
  obtain ⟨b, o, rfl, hbl, hcs⟩ := hcell.resolve_left (by intro e; rw [e] at hl; simp at hl; omega)
  obtain ⟨rfl, -, rfl⟩ : a = some ⟨b, o, none⟩ ∧ True ∧ c = c' := by
    injection he with e1 e2 e3
    exact ⟨e1, trivial, e3⟩
  have MD := Lib.hid (made17_ok (q := 60) (h := 20) (Or.inr ⟨rfl, rfl⟩) W hL.lq hL.lw)
  have AW := Lib.hid hL.awake17
  obtain ⟨q, hq⟩ : ∃ q, q = 3 - pid := ⟨_, rfl⟩
  have hq2 : q = 1 ∨ q = 2 := by omega
  have hne : q ≠ pid := by omega
  have RM : Room 60 20 pid := by unfold Room; omega
  have RQ : Room 60 20 q := by unfold Room; omega
  obtain ⟨f, hf⟩ : ∃ f : Nat → Int, f = fun j => L.getD j 0 := ⟨_, rfl⟩
  have FB : Hid (∀ j, j < n → 0 ≤ f j ∧ f j < 4294967296) := Lib.hid fun j hj => by
    rw [hf]
    have := hL4 (L.getD j 0) (by rw [List.getD_eq_getElem?_getD, List.getElem?_eq_getElem (by omega)]; exact List.getElem_mem _)
    simp only; omega
  have CL : Hid (∀ V, Below W.heap.size W V → ∀ j, j < n → V.cell? ⟨b, o + j, none⟩ = some (.int .u32 (f j))) := Lib.hid fun V hV j hj => by
    rw [hf]
    exact (hV.cell (p := ⟨b, o + j, none⟩) hbl).trans (hcs j (by omega))
  have ARG : Hid (∀ V, Below W.heap.size W V → RowAt V (.slice (some ⟨b, o, none⟩) n c) L) := Lib.hid fun V hV => ⟨_, c, by rw [hl], Or.inr ⟨b, o, rfl, Nat.lt_of_lt_of_le hbl hV.size, fun i hi => (hV.cell (p := ⟨b, o + i, none⟩) hbl).trans (hcs i hi)⟩⟩
  have LF : Hid ((List.range n).map f = L) := Lib.hid (by
    rw [hf, hl]
    exact List.ext_getElem (by simp) fun i h1 h2 => by simp [List.getD_eq_getElem?_getD, h2])
  have LN : Hid (L.length ≤ 1000000) := Lib.hid (by omega)
  have d0 : IntKind.i64.wrap (3 - pid) = q := (IntWalk.i64_in _ (by omega)).trans hq.symm
  have d1 : ¬ (100 : Int) < (n : Int) := by omega
  have d2 : ¬ pid < 1 := by omega
  have d3 : ¬ (2 : Int) < pid := by omega
  have d4 : (1 : Int) ≤ (n : Int) := by omega
  have d5 : va + (n : Int) ≤ 96 := by omega
  have d6 : IntKind.i64.wrap va = va := IntWalk.i64_in _ (by omega)
  have d7 : IntKind.i64.wrap (va + (n : Int)) = va + (n : Int) := IntWalk.i64_in _ (by omega)
  clear hL hcs hcell hL4 he hf hq hbl hl
  go_enter Tryz.func3, Tryz.ntmps3
  go_wp2_with fail
  refine (show Calls Tryz.prog 6 #[.int .i64 60] W _ from MD.out).mono ?_
  rintro e w1 ⟨I, G, a1, a2, n1, c1, n2, c2, rfl, hs, hG⟩
  have HG := Lib.hid hG
  obtain ⟨w3, hw3⟩ : ∃ w3, w3 = w1.alloc (.cells #[.slice a1 n1 c1, .slice a2 n2 c2] 31) := ⟨_, rfl⟩
  obtain ⟨m, hm⟩ : ∃ m, m = Z0 := ⟨_, rfl⟩
  have H3 : Hid (CpS W w3 I 60 20 G m) := Lib.hid (by rw [hw3, hm]; exact hs.step ((Below.refl _ _).alloc (Nat.le_refl _) _))
  have I3 := Lib.hid (H3.out.inOk (i := pid) (va := 0) (n := 96) HG.out RM (by decide) (by decide) (by decide) (by decide))
  clear hm hs hG
  go_wp2_with fail
  rw [← hw3]
  clear hw3
  refine (show Calls Tryz.prog 8 #[.pointer (some ⟨I.ss, 0, none⟩), .int .i64 pid, .int .u32 0, .int .i64 96] w3 _ from I3.out).mono ?_
  rintro e w4 ⟨v4, rfl, ho, hs, hk⟩
  obtain ⟨g4, c4, rfl⟩ := row_formZ ho (by decide)
  have O4 := Lib.hid ho
  have I4 := Lib.hid (hs.inOk (i := q) (va := 0) (n := 96) HG.out RQ (by decide) (by decide) (by decide) (by decide))
  clear ho hs hk I3 H3
  go_wp2_with fail
  refine (show Calls Tryz.prog 8 #[.pointer (some ⟨I.ss, 0, none⟩), .int .i64 q, .int .u32 0, .int .i64 96] w4 _ from I4.out).mono ?_
  rintro e w5 ⟨v5, rfl, ho, hs, hk⟩
  obtain ⟨g5, c5, rfl⟩ := row_formZ ho (by decide)
  have O5 := Lib.hid (And.intro (hk.row O4.out (by decide)) ho)
  have U5 := Lib.hid (hs.outOk (i := pid) (va := va) (n := n) HG.out RM (by decide) hva.1 (by omega) (by omega) (b := b) (o := o) c (f := f) FB.out (fun V j hj _ hV => CL.out V hV j hj))
  clear ho hs hk I4 O4
  go_wp2_with fail
  refine U5.out.mono ?_
  rintro e w6 ⟨rfl, hs, hk⟩
  have H6 := Lib.hid hs
  have O6 := Lib.hid (And.intro (hk.row O5.out.1 (by decide)) (hk.row O5.out.2 (by decide)))
  clear hs hk U5 O5
  obtain ⟨ii, hi, hi0, hi1, hi2⟩ := info_parts wordInfo
  have OM := Lib.hid (World.ownsRow_made (base := w6.heap.size) (e := 23) (size := 1) w6 #[] 0 (Nat.le_refl _) (by decide) rfl)
  have AM : Hid (Below w6.heap.size w6 (w6.alloc (.cells #[] 23))) := Lib.hid ((Below.refl _ _).alloc (Nat.le_refl _) _)
  have T1 : Hid (∀ j u, (seeV (fun j => m pid (0 + (j : Int))) 96)[j]? = some u → (w6.alloc (.cells #[] 23)).cell? ((⟨g4, 0, none⟩ : Addr).add j) = some u) := Lib.hid fun j u hu => by
    have h1 := O6.out.1.cells (g := g4) rfl j u hu
    rw [Addr.add_mid] at h1 ⊢
    exact (AM.out.cell (p := ⟨g4, 0 + j, none⟩) (block_lt_of_cell (a := ⟨g4, 0 + j, none⟩) h1)).trans h1
  have ON : Hid (∀ u ∈ seeV (fun j => m pid (0 + (j : Int))) 96, u.oneCell' = true) := Lib.hid fun u hu => by
    unfold seeV at hu
    obtain ⟨j, _, rfl⟩ := List.mem_map.1 hu
    rfl
  have LS : Hid ((seeV (fun j => m pid (0 + (j : Int))) 96).length = 96 * 1) := Lib.hid (by rw [seeV_len])
  have SZ : Hid (W.heap.size ≤ w6.heap.size ∧ ArN G w6.heap.size) := Lib.hid ⟨H6.out.below.size, H6.out.arN⟩
  go_wp2_with (first
    | (at_builtin; refine wpList_append_own _ rfl (.tmp 105) (.tmp 106) 24 rfl w6.heap.size 23 ii (.int .u32 0) 1 4 Tryz.underlying24 hi hi0 hi1 hi2 rfl (by decide) _ 0 [] rfl OM.out ⟨g4, 0, none⟩ 96 c4 (seeV (fun j => m pid (0 + (j : Int))) 96) rfl LS.out T1.out ON.out (by unfold maxLen; omega) (by omega) AM.out.size ?_; intro v8 w8 ho hg _; rw [Nat.zero_add, List.nil_append] at ho; have B8 := Lib.hid (AM.out.grown hg AM.out.size (fun k hk => (OM.out.lt k hk).1)); obtain ⟨g8, c8, rfl⟩ := row_formZ ho (by decide); have O8 := Lib.hid ho; clear ho hg))
  have R0 : Hid (LpB W w6 I G m (updM m pid va f n) pid va f g8 c8 0 w8) := Lib.hid ⟨H6.out.step B8.out, KeepB.below B8.out, by rw [updM_zero]; exact O8.out⟩
  clear T1 ON LS OM AM O8 hi hi0 hi1 hi2
  go_loopw [21] (fun i wr => ∃ k : Nat, i = .int .i64 (k : Int) ∧ k ≤ n ∧ LpB W w6 I G m (updM m pid va f n) pid va f g8 c8 k wr) (fun i _ => (n - (intOf i).toNat))
  case atStart => exact ⟨0, rfl, Nat.zero_le _, R0.out⟩
  case round =>
    obtain ⟨k, rfl, hk, hR⟩ := hrel
    have RR := Lib.hid hR
    clear hR
    by_cases hlt : k < n
    · obtain ⟨p, hpp⟩ : ∃ p : Nat, va + (k : Int) = (p : Int) := ⟨(va + (k : Int)).toNat, by omega⟩
      have hk1 : (k : Int) < (n : Int) := by omega
      have hp9 : p < 96 := by omega
      have hp96 : (p : Int) < 96 := by omega
      have d8 : IntKind.i64.wrap (va + (k : Int)) = (p : Int) := (IntWalk.i64_in _ (by omega)).trans hpp
      have c1 : wr.cell? ⟨b, o + k, none⟩ = some (.int .u32 (f k)) := CL.out wr RR.out.cs.below k hlt
      have c2 : wr.cell? ⟨g8, p, none⟩ = some (.int .u32 (updM m pid va f k pid (0 + (p : Int)))) := by
        have := RR.out.row.cells (g := g8) rfl p _ (seeV_get _ 96 p hp9)
        rwa [Addr.add_mid, Nat.zero_add] at this
      obtain ⟨cs, hcs⟩ := own_block RR.out.row (g := g8) rfl
      have f2 := frozen_of_row wr g8 p _ _ hcs
      have RN := Lib.hid (RR.out.put hpp SZ.out.1 SZ.out.2)
      clear hcs hpp
      go_wp2_with fail
      go_roundw
      case rel => exact ⟨k + 1, by go_num, by omega, RN.out⟩
      case measure => simp [intOf]; omega
    · obtain rfl : n = k := by omega
      have I6 := Lib.hid (RR.out.cs.inOk (i := pid) (va := 0) (n := 96) HG.out RM (by decide) (by decide) (by decide) (by decide))
      clear hlt
      go_wp2_with fail
      refine (show Calls Tryz.prog 8 #[.pointer (some ⟨I.ss, 0, none⟩), .int .i64 pid, .int .u32 0, .int .i64 96] wr _ from I6.out).mono ?_
      rintro e w9 ⟨v9, rfl, ho, hs, hk⟩
      obtain ⟨g9, c9, rfl⟩ := row_formZ ho (by decide)
      have P9 := Lib.hid (And.intro ho (And.intro (hk.row RR.out.row (by decide)) (RR.out.kb.trans hk)))
      have I9 := Lib.hid (hs.inOk (i := q) (va := 0) (n := 96) HG.out RQ (by decide) (by decide) (by decide) (by decide))
      clear ho hs hk I6
      go_wp2_with fail
      refine (show Calls Tryz.prog 8 #[.pointer (some ⟨I.ss, 0, none⟩), .int .i64 q, .int .u32 0, .int .i64 96] w9 _ from I9.out).mono ?_
      rintro e w10 ⟨v10, rfl, ho, hs, hk⟩
      obtain ⟨g10, c10, rfl⟩ := row_formZ ho (by decide)
      have Q1 := Lib.hid (rowAt_see (hk.row P9.out.1 (by decide)) (by decide) rfl)
      have Q2 := Lib.hid (rowAt_see (hk.row P9.out.2.1 (by decide)) (by decide) rfl)
      have Q3 := Lib.hid (rowAt_see (L := (List.range 96).map fun j : Nat => m q (0 + (j : Int))) ho (by decide) (List.map_congr_left fun j _ => updM_out m pid va f (Or.inl hne)))
      have Q4 := Lib.hid (rowAt_see ((P9.out.2.2.trans hk).row O6.out.2 (by decide)) (by decide) rfl)
      have S1 := Lib.hid (same_yes _ _ _ w10 (by simp) Q1.out Q2.out)
      have H10 := Lib.hid hs
      clear ho hs hk I9 P9
      go_wp2_with fail
      refine S1.out.mono ?_
      rintro e w11 ⟨rfl, hb⟩
      have B11 := Lib.hid hb
      have S2 := Lib.hid (same_yes _ _ _ w11 (by simp) (Q3.out.below hb) (Q4.out.below hb))
      clear hb S1
      go_wp2_with fail
      refine S2.out.mono ?_
      rintro e w12 ⟨rfl, hb⟩
      have I12 := Lib.hid (((H10.out.step B11.out).step hb).inOk (i := pid) (va := va) (n := n) HG.out RM (by decide) hva.1 (by omega) (by omega))
      clear hb S2
      go_wp2_with fail
      refine I12.out.mono ?_
      rintro e w13 ⟨v13, rfl, ho, hs, hk⟩
      obtain ⟨g13, c13, rfl⟩ := row_formZ ho (by omega)
      have S3 := Lib.hid (same_yes _ _ L w13 LN.out (rowAt_see ho (by omega) ((List.map_congr_left fun j hj => updM_at m pid va f (List.mem_range.1 hj)).trans LF.out)) (ARG.out w13 hs.below))
      have H13 := Lib.hid hs.below
      clear ho hs hk I12
      go_wp2_with fail
      refine S3.out.mono ?_
      rintro e w14 ⟨rfl, hb⟩
      have B14 := Lib.hid (H13.out.trans (hb.mono H13.out.size))
      have A14 := Lib.hid (AW.out w14 B14.out)
      clear hb S3
      go_wp2_with fail
      refine A14.out.mono ?_
      rintro e w15 ⟨rfl, hb⟩
      have B15 := Lib.hid (B14.out.trans (hb.mono B14.out.size))
      clear hb
      go_wp2
      go_ret
      exact ⟨rfl, B15.out⟩
set_option maxHeartbeats 16000000 in
theorem copyBack_in_true {pid va : Int} {a : Option Addr} {n c : Nat} {W : World} {L : List Int} (hl : n = L.length) (hv : ArgWs W (.slice a n c) L) (h100 : n ≤ 100) (hp : pid = 1 ∨ pid = 2) (hva : 0 ≤ va ∧ va ≤ 4294967295) (hn1 : 1 ≤ n) (hfit : va + n ≤ 96) (hL : LaidN W) :
    Calls Tryz.prog 3 #[.int .i64 pid, .int .u32 va, .slice a n c, .bool true] W fun e w' => e = .returned (.bool true) ∧ Below W.heap.size W w' := by
  obtain ⟨a', c', he, hL4, hcell⟩ := hv
  obtain ⟨b, o, rfl, hbl, hcs⟩ := hcell.resolve_left (by intro e; rw [e] at hl; simp at hl; omega)
  obtain ⟨rfl, -, rfl⟩ : a = some ⟨b, o, none⟩ ∧ True ∧ c = c' := by
    injection he with e1 e2 e3
    exact ⟨e1, trivial, e3⟩
  have MD := Lib.hid (made17_ok (q := 60) (h := 20) (Or.inr ⟨rfl, rfl⟩) W hL.lq hL.lw)
  have AW := Lib.hid hL.awake17
  obtain ⟨q, hq⟩ : ∃ q, q = 3 - pid := ⟨_, rfl⟩
  have hq2 : q = 1 ∨ q = 2 := by omega
  have hne : q ≠ pid := by omega
  have RM : Room 60 20 pid := by unfold Room; omega
  have RQ : Room 60 20 q := by unfold Room; omega
  obtain ⟨f, hf⟩ : ∃ f : Nat → Int, f = fun j => L.getD j 0 := ⟨_, rfl⟩
  have FB : Hid (∀ j, j < n → 0 ≤ f j ∧ f j < 4294967296) := Lib.hid fun j hj => by
    rw [hf]
    have := hL4 (L.getD j 0) (by rw [List.getD_eq_getElem?_getD, List.getElem?_eq_getElem (by omega)]; exact List.getElem_mem _)
    simp only; omega
  have CL : Hid (∀ V, Below W.heap.size W V → ∀ j, j < n → V.cell? ⟨b, o + j, none⟩ = some (.int .u32 (f j))) := Lib.hid fun V hV j hj => by
    rw [hf]
    exact (hV.cell (p := ⟨b, o + j, none⟩) hbl).trans (hcs j (by omega))
  have ARG : Hid (∀ V, Below W.heap.size W V → RowAt V (.slice (some ⟨b, o, none⟩) n c) L) := Lib.hid fun V hV => ⟨_, c, by rw [hl], Or.inr ⟨b, o, rfl, Nat.lt_of_lt_of_le hbl hV.size, fun i hi => (hV.cell (p := ⟨b, o + i, none⟩) hbl).trans (hcs i hi)⟩⟩
  have LF : Hid ((List.range n).map f = L) := Lib.hid (by
    rw [hf, hl]
    exact List.ext_getElem (by simp) fun i h1 h2 => by simp [List.getD_eq_getElem?_getD, h2])
  have LN : Hid (L.length ≤ 1000000) := Lib.hid (by omega)
  have d0 : IntKind.i64.wrap (3 - pid) = q := (IntWalk.i64_in _ (by omega)).trans hq.symm
  have d1 : ¬ (100 : Int) < (n : Int) := by omega
  have d2 : ¬ pid < 1 := by omega
  have d3 : ¬ (2 : Int) < pid := by omega
  have d4 : (1 : Int) ≤ (n : Int) := by omega
  have d5 : va + (n : Int) ≤ 96 := by omega
  have d6 : IntKind.i64.wrap va = va := IntWalk.i64_in _ (by omega)
  have d7 : IntKind.i64.wrap (va + (n : Int)) = va + (n : Int) := IntWalk.i64_in _ (by omega)
  clear hL hcs hcell hL4 he hf hq hbl hl
  go_enter Tryz.func3, Tryz.ntmps3
  go_wp2_with fail
  refine (show Calls Tryz.prog 6 #[.int .i64 60] W _ from MD.out).mono ?_
  rintro e w1 ⟨I, G, a1, a2, n1, c1, n2, c2, rfl, hs, hG⟩
  have HG := Lib.hid hG
  have H1 := Lib.hid (hs.step ((Below.refl _ _).alloc (Nat.le_refl _) (.cells #[.slice a1 n1 c1, .slice a2 n2 c2] 31)))
  have F1 := Lib.hid (H1.out.fillOk (i := pid) (va := 0) (n := 96) (x := 5) HG.out RM (by decide) (by decide) (by decide) (by decide) (by decide))
  clear hs hG
  go_wp2_with fail
  refine (show Calls Tryz.prog 7 #[.pointer (some ⟨I.ss, 0, none⟩), .int .i64 pid, .int .u32 0, .int .i64 96, .int .u32 5] _ _ from F1.out).mono ?_
  rintro e w2 ⟨rfl, hs, -⟩
  obtain ⟨m2, hm2⟩ : ∃ m, m = updM Z0 pid 0 (fun _ => 5) 96 := ⟨_, rfl⟩
  rw [← hm2] at hs
  have F2 := Lib.hid (hs.fillOk (i := q) (va := 0) (n := 96) (x := 6) HG.out RQ (by decide) (by decide) (by decide) (by decide) (by decide))
  clear hs hm2 H1 F1
  go_wp2_with fail
  refine (show Calls Tryz.prog 7 #[.pointer (some ⟨I.ss, 0, none⟩), .int .i64 q, .int .u32 0, .int .i64 96, .int .u32 6] _ _ from F2.out).mono ?_
  rintro e w3 ⟨rfl, hs, -⟩
  obtain ⟨m, hm⟩ : ∃ m, m = updM m2 q 0 (fun _ => 6) 96 := ⟨_, rfl⟩
  rw [← hm] at hs
  have H3 := Lib.hid hs
  have I3 := Lib.hid (H3.out.inOk (i := pid) (va := 0) (n := 96) HG.out RM (by decide) (by decide) (by decide) (by decide))
  clear hs hm F2
  go_wp2_with fail
  refine (show Calls Tryz.prog 8 #[.pointer (some ⟨I.ss, 0, none⟩), .int .i64 pid, .int .u32 0, .int .i64 96] w3 _ from I3.out).mono ?_
  rintro e w4 ⟨v4, rfl, ho, hs, hk⟩
  obtain ⟨g4, c4, rfl⟩ := row_formZ ho (by decide)
  have O4 := Lib.hid ho
  have I4 := Lib.hid (hs.inOk (i := q) (va := 0) (n := 96) HG.out RQ (by decide) (by decide) (by decide) (by decide))
  clear ho hs hk I3 H3
  go_wp2_with fail
  refine (show Calls Tryz.prog 8 #[.pointer (some ⟨I.ss, 0, none⟩), .int .i64 q, .int .u32 0, .int .i64 96] w4 _ from I4.out).mono ?_
  rintro e w5 ⟨v5, rfl, ho, hs, hk⟩
  obtain ⟨g5, c5, rfl⟩ := row_formZ ho (by decide)
  have O5 := Lib.hid (And.intro (hk.row O4.out (by decide)) ho)
  have U5 := Lib.hid (hs.outOk (i := pid) (va := va) (n := n) HG.out RM (by decide) hva.1 (by omega) (by omega) (b := b) (o := o) c (f := f) FB.out (fun V j hj _ hV => CL.out V hV j hj))
  clear ho hs hk I4 O4
  go_wp2_with fail
  refine U5.out.mono ?_
  rintro e w6 ⟨rfl, hs, hk⟩
  have H6 := Lib.hid hs
  have O6 := Lib.hid (And.intro (hk.row O5.out.1 (by decide)) (hk.row O5.out.2 (by decide)))
  clear hs hk U5 O5
  obtain ⟨ii, hi, hi0, hi1, hi2⟩ := info_parts wordInfo
  have OM := Lib.hid (World.ownsRow_made (base := w6.heap.size) (e := 23) (size := 1) w6 #[] 0 (Nat.le_refl _) (by decide) rfl)
  have AM : Hid (Below w6.heap.size w6 (w6.alloc (.cells #[] 23))) := Lib.hid ((Below.refl _ _).alloc (Nat.le_refl _) _)
  have T1 : Hid (∀ j u, (seeV (fun j => m pid (0 + (j : Int))) 96)[j]? = some u → (w6.alloc (.cells #[] 23)).cell? ((⟨g4, 0, none⟩ : Addr).add j) = some u) := Lib.hid fun j u hu => by
    have h1 := O6.out.1.cells (g := g4) rfl j u hu
    rw [Addr.add_mid] at h1 ⊢
    exact (AM.out.cell (p := ⟨g4, 0 + j, none⟩) (block_lt_of_cell (a := ⟨g4, 0 + j, none⟩) h1)).trans h1
  have ON : Hid (∀ u ∈ seeV (fun j => m pid (0 + (j : Int))) 96, u.oneCell' = true) := Lib.hid fun u hu => by
    unfold seeV at hu
    obtain ⟨j, _, rfl⟩ := List.mem_map.1 hu
    rfl
  have LS : Hid ((seeV (fun j => m pid (0 + (j : Int))) 96).length = 96 * 1) := Lib.hid (by rw [seeV_len])
  have SZ : Hid (W.heap.size ≤ w6.heap.size ∧ ArN G w6.heap.size) := Lib.hid ⟨H6.out.below.size, H6.out.arN⟩
  go_wp2_with (first
    | (at_builtin; refine wpList_append_own _ rfl (.tmp 105) (.tmp 106) 24 rfl w6.heap.size 23 ii (.int .u32 0) 1 4 Tryz.underlying24 hi hi0 hi1 hi2 rfl (by decide) _ 0 [] rfl OM.out ⟨g4, 0, none⟩ 96 c4 (seeV (fun j => m pid (0 + (j : Int))) 96) rfl LS.out T1.out ON.out (by unfold maxLen; omega) (by omega) AM.out.size ?_; intro v8 w8 ho hg _; rw [Nat.zero_add, List.nil_append] at ho; have B8 := Lib.hid (AM.out.grown hg AM.out.size (fun k hk => (OM.out.lt k hk).1)); obtain ⟨g8, c8, rfl⟩ := row_formZ ho (by decide); have O8 := Lib.hid ho; clear ho hg))
  have R0 : Hid (LpB W w6 I G m (updM m pid va f n) pid va f g8 c8 0 w8) := Lib.hid ⟨H6.out.step B8.out, KeepB.below B8.out, by rw [updM_zero]; exact O8.out⟩
  clear T1 ON LS OM AM O8 hi hi0 hi1 hi2
  go_loopw [21] (fun i wr => ∃ k : Nat, i = .int .i64 (k : Int) ∧ k ≤ n ∧ LpB W w6 I G m (updM m pid va f n) pid va f g8 c8 k wr) (fun i _ => (n - (intOf i).toNat))
  case atStart => exact ⟨0, rfl, Nat.zero_le _, R0.out⟩
  case round =>
    obtain ⟨k, rfl, hk, hR⟩ := hrel
    have RR := Lib.hid hR
    clear hR
    by_cases hlt : k < n
    · obtain ⟨p, hpp⟩ : ∃ p : Nat, va + (k : Int) = (p : Int) := ⟨(va + (k : Int)).toNat, by omega⟩
      have hk1 : (k : Int) < (n : Int) := by omega
      have hp9 : p < 96 := by omega
      have hp96 : (p : Int) < 96 := by omega
      have d8 : IntKind.i64.wrap (va + (k : Int)) = (p : Int) := (IntWalk.i64_in _ (by omega)).trans hpp
      have c1 : wr.cell? ⟨b, o + k, none⟩ = some (.int .u32 (f k)) := CL.out wr RR.out.cs.below k hlt
      have c2 : wr.cell? ⟨g8, p, none⟩ = some (.int .u32 (updM m pid va f k pid (0 + (p : Int)))) := by
        have := RR.out.row.cells (g := g8) rfl p _ (seeV_get _ 96 p hp9)
        rwa [Addr.add_mid, Nat.zero_add] at this
      obtain ⟨cs, hcs⟩ := own_block RR.out.row (g := g8) rfl
      have f2 := frozen_of_row wr g8 p _ _ hcs
      have RN := Lib.hid (RR.out.put hpp SZ.out.1 SZ.out.2)
      clear hcs hpp
      go_wp2_with fail
      go_roundw
      case rel => exact ⟨k + 1, by go_num, by omega, RN.out⟩
      case measure => simp [intOf]; omega
    · obtain rfl : n = k := by omega
      have I6 := Lib.hid (RR.out.cs.inOk (i := pid) (va := 0) (n := 96) HG.out RM (by decide) (by decide) (by decide) (by decide))
      clear hlt
      go_wp2_with fail
      refine (show Calls Tryz.prog 8 #[.pointer (some ⟨I.ss, 0, none⟩), .int .i64 pid, .int .u32 0, .int .i64 96] wr _ from I6.out).mono ?_
      rintro e w9 ⟨v9, rfl, ho, hs, hk⟩
      obtain ⟨g9, c9, rfl⟩ := row_formZ ho (by decide)
      have P9 := Lib.hid (And.intro ho (And.intro (hk.row RR.out.row (by decide)) (RR.out.kb.trans hk)))
      have I9 := Lib.hid (hs.inOk (i := q) (va := 0) (n := 96) HG.out RQ (by decide) (by decide) (by decide) (by decide))
      clear ho hs hk I6
      go_wp2_with fail
      refine (show Calls Tryz.prog 8 #[.pointer (some ⟨I.ss, 0, none⟩), .int .i64 q, .int .u32 0, .int .i64 96] w9 _ from I9.out).mono ?_
      rintro e w10 ⟨v10, rfl, ho, hs, hk⟩
      obtain ⟨g10, c10, rfl⟩ := row_formZ ho (by decide)
      have Q1 := Lib.hid (rowAt_see (hk.row P9.out.1 (by decide)) (by decide) rfl)
      have Q2 := Lib.hid (rowAt_see (hk.row P9.out.2.1 (by decide)) (by decide) rfl)
      have Q3 := Lib.hid (rowAt_see (L := (List.range 96).map fun j : Nat => m q (0 + (j : Int))) ho (by decide) (List.map_congr_left fun j _ => updM_out m pid va f (Or.inl hne)))
      have Q4 := Lib.hid (rowAt_see ((P9.out.2.2.trans hk).row O6.out.2 (by decide)) (by decide) rfl)
      have S1 := Lib.hid (same_yes _ _ _ w10 (by simp) Q1.out Q2.out)
      have H10 := Lib.hid hs
      clear ho hs hk I9 P9
      go_wp2_with fail
      refine S1.out.mono ?_
      rintro e w11 ⟨rfl, hb⟩
      have B11 := Lib.hid hb
      have S2 := Lib.hid (same_yes _ _ _ w11 (by simp) (Q3.out.below hb) (Q4.out.below hb))
      clear hb S1
      go_wp2_with fail
      refine S2.out.mono ?_
      rintro e w12 ⟨rfl, hb⟩
      have I12 := Lib.hid (((H10.out.step B11.out).step hb).inOk (i := pid) (va := va) (n := n) HG.out RM (by decide) hva.1 (by omega) (by omega))
      clear hb S2
      go_wp2_with fail
      refine I12.out.mono ?_
      rintro e w13 ⟨v13, rfl, ho, hs, hk⟩
      obtain ⟨g13, c13, rfl⟩ := row_formZ ho (by omega)
      have S3 := Lib.hid (same_yes _ _ L w13 LN.out (rowAt_see ho (by omega) ((List.map_congr_left fun j hj => updM_at m pid va f (List.mem_range.1 hj)).trans LF.out)) (ARG.out w13 hs.below))
      have H13 := Lib.hid hs.below
      clear ho hs hk I12
      go_wp2_with fail
      refine S3.out.mono ?_
      rintro e w14 ⟨rfl, hb⟩
      have B14 := Lib.hid (H13.out.trans (hb.mono H13.out.size))
      have A14 := Lib.hid (AW.out w14 B14.out)
      clear hb S3
      go_wp2_with fail
      refine A14.out.mono ?_
      rintro e w15 ⟨rfl, hb⟩
      have B15 := Lib.hid (B14.out.trans (hb.mono B14.out.size))
      clear hb
      go_wp2
      go_ret
      exact ⟨rfl, B15.out⟩
set_option maxHeartbeats 16000000 in
theorem copyBack_out0_false {pid va : Int} {a : Option Addr} {n c : Nat} {W : World} (h100 : n ≤ 100) (hp : pid = 1 ∨ pid = 2) (hva : 0 ≤ va ∧ va ≤ 4294967295) (hn0 : n < 1) (hL : LaidN W) :
    Calls Tryz.prog 3 #[.int .i64 pid, .int .u32 va, .slice a n c, .bool false] W fun e w' => e = .returned (.bool true) ∧ Below W.heap.size W w' := by
  have MD := Lib.hid (made17_ok (q := 60) (h := 20) (Or.inr ⟨rfl, rfl⟩) W hL.lq hL.lw)
  have AW := Lib.hid hL.awake17
  obtain ⟨q, hq⟩ : ∃ q, q = 3 - pid := ⟨_, rfl⟩
  have hq2 : q = 1 ∨ q = 2 := by omega
  have hne : q ≠ pid := by omega
  have RM : Room 60 20 pid := by unfold Room; omega
  have RQ : Room 60 20 q := by unfold Room; omega
  have d0 : IntKind.i64.wrap (3 - pid) = q := (IntWalk.i64_in _ (by omega)).trans hq.symm
  have d1 : ¬ (100 : Int) < (n : Int) := by omega
  have d2 : ¬ pid < 1 := by omega
  have d3 : ¬ (2 : Int) < pid := by omega
  have d4 : decide ((1 : Int) ≤ (n : Int)) = false := decide_eq_false (by omega)
  have d8 : decide ((0 : Int) < (n : Int)) = false := decide_eq_false (by omega)
  have d6 : IntKind.i64.wrap va = va := IntWalk.i64_in _ (by omega)
  have d7 : IntKind.i64.wrap (va + (n : Int)) = va + (n : Int) := IntWalk.i64_in _ (by omega)
  clear hL hq
  go_enter Tryz.func3, Tryz.ntmps3
  go_wp2_with fail
  refine (show Calls Tryz.prog 6 #[.int .i64 60] W _ from MD.out).mono ?_
  rintro e w1 ⟨I, G, a1, a2, n1, c1, n2, c2, rfl, hs, hG⟩
  have HG := Lib.hid hG
  obtain ⟨w3, hw3⟩ : ∃ w3, w3 = w1.alloc (.cells #[.slice a1 n1 c1, .slice a2 n2 c2] 31) := ⟨_, rfl⟩
  obtain ⟨m, hm⟩ : ∃ m, m = Z0 := ⟨_, rfl⟩
  have H3 : Hid (CpS W w3 I 60 20 G m) := Lib.hid (by rw [hw3, hm]; exact hs.step ((Below.refl _ _).alloc (Nat.le_refl _) _))
  have I3 := Lib.hid (H3.out.inOk (i := pid) (va := 0) (n := 96) HG.out RM (by decide) (by decide) (by decide) (by decide))
  clear hm hs hG
  go_wp2_with fail
  rw [← hw3]
  clear hw3
  refine (show Calls Tryz.prog 8 #[.pointer (some ⟨I.ss, 0, none⟩), .int .i64 pid, .int .u32 0, .int .i64 96] w3 _ from I3.out).mono ?_
  rintro e w4 ⟨v4, rfl, ho, hs, hk⟩
  obtain ⟨g4, c4, rfl⟩ := row_formZ ho (by decide)
  have O4 := Lib.hid ho
  have I4 := Lib.hid (hs.inOk (i := q) (va := 0) (n := 96) HG.out RQ (by decide) (by decide) (by decide) (by decide))
  clear ho hs hk I3 H3
  go_wp2_with fail
  refine (show Calls Tryz.prog 8 #[.pointer (some ⟨I.ss, 0, none⟩), .int .i64 q, .int .u32 0, .int .i64 96] w4 _ from I4.out).mono ?_
  rintro e w5 ⟨v5, rfl, ho, hs, hk⟩
  obtain ⟨g5, c5, rfl⟩ := row_formZ ho (by decide)
  have O5 := Lib.hid (And.intro (hk.row O4.out (by decide)) ho)
  have U5 := Lib.hid (hs.outNo (i := pid) (va := va) (n := n) HG.out hp (by omega) (by omega) (by omega) a c)
  clear ho hs hk I4 O4
  go_wp2_with fail
  refine U5.out.mono ?_
  rintro e w6 ⟨er, rfl, hner, hs, hk⟩
  have der : (er == 0) = false := by simpa using hner.1
  clear hner
  have H6 := Lib.hid hs
  have O6 := Lib.hid (And.intro (hk.row O5.out.1 (by decide)) (hk.row O5.out.2 (by decide)))
  clear hs hk U5 O5
  obtain ⟨ii, hi, hi0, hi1, hi2⟩ := info_parts wordInfo
  have OM := Lib.hid (World.ownsRow_made (base := w6.heap.size) (e := 23) (size := 1) w6 #[] 0 (Nat.le_refl _) (by decide) rfl)
  have AM : Hid (Below w6.heap.size w6 (w6.alloc (.cells #[] 23))) := Lib.hid ((Below.refl _ _).alloc (Nat.le_refl _) _)
  have T1 : Hid (∀ j u, (seeV (fun j => m pid (0 + (j : Int))) 96)[j]? = some u → (w6.alloc (.cells #[] 23)).cell? ((⟨g4, 0, none⟩ : Addr).add j) = some u) := Lib.hid fun j u hu => by
    have h1 := O6.out.1.cells (g := g4) rfl j u hu
    rw [Addr.add_mid] at h1 ⊢
    exact (AM.out.cell (p := ⟨g4, 0 + j, none⟩) (block_lt_of_cell (a := ⟨g4, 0 + j, none⟩) h1)).trans h1
  have ON : Hid (∀ u ∈ seeV (fun j => m pid (0 + (j : Int))) 96, u.oneCell' = true) := Lib.hid fun u hu => by
    unfold seeV at hu
    obtain ⟨j, _, rfl⟩ := List.mem_map.1 hu
    rfl
  have LS : Hid ((seeV (fun j => m pid (0 + (j : Int))) 96).length = 96 * 1) := Lib.hid (by rw [seeV_len])
  have SZ : Hid (W.heap.size ≤ w6.heap.size ∧ ArN G w6.heap.size) := Lib.hid ⟨H6.out.below.size, H6.out.arN⟩
  go_wp2_with (first
    | (at_builtin; refine wpList_append_own _ rfl (.tmp 105) (.tmp 106) 24 rfl w6.heap.size 23 ii (.int .u32 0) 1 4 Tryz.underlying24 hi hi0 hi1 hi2 rfl (by decide) _ 0 [] rfl OM.out ⟨g4, 0, none⟩ 96 c4 (seeV (fun j => m pid (0 + (j : Int))) 96) rfl LS.out T1.out ON.out (by unfold maxLen; omega) (by omega) AM.out.size ?_; intro v8 w8 ho hg _; rw [Nat.zero_add, List.nil_append] at ho; have B8 := Lib.hid (AM.out.grown hg AM.out.size (fun k hk => (OM.out.lt k hk).1)); obtain ⟨g8, c8, rfl⟩ := row_formZ ho (by decide); have O8 := Lib.hid ho; clear ho hg))
  have H8 := Lib.hid (H6.out.step B8.out)
  have K8 := Lib.hid (KeepB.below B8.out)
  clear T1 ON LS OM AM hi hi0 hi1 hi2
  refine wp_loop_rounds 1 ?_
  rw [rounds_succ]
  have I6 := Lib.hid (H8.out.inOk (i := pid) (va := 0) (n := 96) HG.out RM (by decide) (by decide) (by decide) (by decide))
  go_wp2_with fail
  all_goals
    refine (show Calls Tryz.prog 8 #[.pointer (some ⟨I.ss, 0, none⟩), .int .i64 pid, .int .u32 0, .int .i64 96] w8 _ from I6.out).mono ?_
    rintro e w9 ⟨v9, rfl, ho, hs, hk⟩
    obtain ⟨g9, c9, rfl⟩ := row_formZ ho (by decide)
    have P9 := Lib.hid (And.intro ho (And.intro (hk.row O8.out (by decide)) (K8.out.trans hk)))
    have I9 := Lib.hid (hs.inOk (i := q) (va := 0) (n := 96) HG.out RQ (by decide) (by decide) (by decide) (by decide))
    clear ho hs hk I6
    go_wp2_with fail
    refine (show Calls Tryz.prog 8 #[.pointer (some ⟨I.ss, 0, none⟩), .int .i64 q, .int .u32 0, .int .i64 96] w9 _ from I9.out).mono ?_
    rintro e w10 ⟨v10, rfl, ho, hs, hk⟩
    obtain ⟨g10, c10, rfl⟩ := row_formZ ho (by decide)
    have Q1 := Lib.hid (rowAt_see (hk.row P9.out.1 (by decide)) (by decide) rfl)
    have Q2 := Lib.hid (rowAt_see (hk.row P9.out.2.1 (by decide)) (by decide) rfl)
    have Q3 := Lib.hid (rowAt_see ho (by decide) rfl)
    have Q4 := Lib.hid (rowAt_see ((P9.out.2.2.trans hk).row O6.out.2 (by decide)) (by decide) rfl)
    have S1 := Lib.hid (same_yes _ _ _ w10 (by simp) Q1.out Q2.out)
    have H10 := Lib.hid hs
    clear ho hs hk I9 P9
    go_wp2_with fail
    refine S1.out.mono ?_
    rintro e w11 ⟨rfl, hb⟩
    have B11 := Lib.hid hb
    have S2 := Lib.hid (same_yes _ _ _ w11 (by simp) (Q3.out.below hb) (Q4.out.below hb))
    clear hb S1
    go_wp2_with fail
    refine S2.out.mono ?_
    rintro e w12 ⟨rfl, hb⟩
    have I12 := Lib.hid (((H10.out.step B11.out).step hb).inNo (i := pid) (va := va) (n := n) HG.out hp (by omega) (by omega) (by omega))
    clear hb S2
    go_wp2_with fail
    refine I12.out.mono ?_
    rintro e w13 ⟨er2, hner2, rfl, hs, hk⟩
    have der2 : (er2 == 0) = false := by simpa using hner2
    have A14 := Lib.hid (AW.out w13 hs.below)
    have B14 := Lib.hid hs.below
    clear hs hk I12 hner2
    go_wp2_with fail
    refine A14.out.mono ?_
    rintro e w15 ⟨rfl, hb⟩
    have B15 := Lib.hid (B14.out.trans (hb.mono B14.out.size))
    clear hb
    go_wp2
    go_ret
    exact ⟨rfl, B15.out⟩
set_option maxHeartbeats 16000000 in
theorem copyBack_out0_true {pid va : Int} {a : Option Addr} {n c : Nat} {W : World} (h100 : n ≤ 100) (hp : pid = 1 ∨ pid = 2) (hva : 0 ≤ va ∧ va ≤ 4294967295) (hn0 : n < 1) (hL : LaidN W) :
    Calls Tryz.prog 3 #[.int .i64 pid, .int .u32 va, .slice a n c, .bool true] W fun e w' => e = .returned (.bool true) ∧ Below W.heap.size W w' := by
  have MD := Lib.hid (made17_ok (q := 60) (h := 20) (Or.inr ⟨rfl, rfl⟩) W hL.lq hL.lw)
  have AW := Lib.hid hL.awake17
  obtain ⟨q, hq⟩ : ∃ q, q = 3 - pid := ⟨_, rfl⟩
  have hq2 : q = 1 ∨ q = 2 := by omega
  have hne : q ≠ pid := by omega
  have RM : Room 60 20 pid := by unfold Room; omega
  have RQ : Room 60 20 q := by unfold Room; omega
  have d0 : IntKind.i64.wrap (3 - pid) = q := (IntWalk.i64_in _ (by omega)).trans hq.symm
  have d1 : ¬ (100 : Int) < (n : Int) := by omega
  have d2 : ¬ pid < 1 := by omega
  have d3 : ¬ (2 : Int) < pid := by omega
  have d4 : decide ((1 : Int) ≤ (n : Int)) = false := decide_eq_false (by omega)
  have d8 : decide ((0 : Int) < (n : Int)) = false := decide_eq_false (by omega)
  have d6 : IntKind.i64.wrap va = va := IntWalk.i64_in _ (by omega)
  have d7 : IntKind.i64.wrap (va + (n : Int)) = va + (n : Int) := IntWalk.i64_in _ (by omega)
  clear hL hq
  go_enter Tryz.func3, Tryz.ntmps3
  go_wp2_with fail
  refine (show Calls Tryz.prog 6 #[.int .i64 60] W _ from MD.out).mono ?_
  rintro e w1 ⟨I, G, a1, a2, n1, c1, n2, c2, rfl, hs, hG⟩
  have HG := Lib.hid hG
  have H1 := Lib.hid (hs.step ((Below.refl _ _).alloc (Nat.le_refl _) (.cells #[.slice a1 n1 c1, .slice a2 n2 c2] 31)))
  have F1 := Lib.hid (H1.out.fillOk (i := pid) (va := 0) (n := 96) (x := 5) HG.out RM (by decide) (by decide) (by decide) (by decide) (by decide))
  clear hs hG
  go_wp2_with fail
  refine (show Calls Tryz.prog 7 #[.pointer (some ⟨I.ss, 0, none⟩), .int .i64 pid, .int .u32 0, .int .i64 96, .int .u32 5] _ _ from F1.out).mono ?_
  rintro e w2 ⟨rfl, hs, -⟩
  obtain ⟨m2, hm2⟩ : ∃ m, m = updM Z0 pid 0 (fun _ => 5) 96 := ⟨_, rfl⟩
  rw [← hm2] at hs
  have F2 := Lib.hid (hs.fillOk (i := q) (va := 0) (n := 96) (x := 6) HG.out RQ (by decide) (by decide) (by decide) (by decide) (by decide))
  clear hs hm2 H1 F1
  go_wp2_with fail
  refine (show Calls Tryz.prog 7 #[.pointer (some ⟨I.ss, 0, none⟩), .int .i64 q, .int .u32 0, .int .i64 96, .int .u32 6] _ _ from F2.out).mono ?_
  rintro e w3 ⟨rfl, hs, -⟩
  obtain ⟨m, hm⟩ : ∃ m, m = updM m2 q 0 (fun _ => 6) 96 := ⟨_, rfl⟩
  rw [← hm] at hs
  have H3 := Lib.hid hs
  have I3 := Lib.hid (H3.out.inOk (i := pid) (va := 0) (n := 96) HG.out RM (by decide) (by decide) (by decide) (by decide))
  clear hs hm F2
  go_wp2_with fail
  refine (show Calls Tryz.prog 8 #[.pointer (some ⟨I.ss, 0, none⟩), .int .i64 pid, .int .u32 0, .int .i64 96] w3 _ from I3.out).mono ?_
  rintro e w4 ⟨v4, rfl, ho, hs, hk⟩
  obtain ⟨g4, c4, rfl⟩ := row_formZ ho (by decide)
  have O4 := Lib.hid ho
  have I4 := Lib.hid (hs.inOk (i := q) (va := 0) (n := 96) HG.out RQ (by decide) (by decide) (by decide) (by decide))
  clear ho hs hk I3 H3
  go_wp2_with fail
  refine (show Calls Tryz.prog 8 #[.pointer (some ⟨I.ss, 0, none⟩), .int .i64 q, .int .u32 0, .int .i64 96] w4 _ from I4.out).mono ?_
  rintro e w5 ⟨v5, rfl, ho, hs, hk⟩
  obtain ⟨g5, c5, rfl⟩ := row_formZ ho (by decide)
  have O5 := Lib.hid (And.intro (hk.row O4.out (by decide)) ho)
  have U5 := Lib.hid (hs.outNo (i := pid) (va := va) (n := n) HG.out hp (by omega) (by omega) (by omega) a c)
  clear ho hs hk I4 O4
  go_wp2_with fail
  refine U5.out.mono ?_
  rintro e w6 ⟨er, rfl, hner, hs, hk⟩
  have der : (er == 0) = false := by simpa using hner.1
  clear hner
  have H6 := Lib.hid hs
  have O6 := Lib.hid (And.intro (hk.row O5.out.1 (by decide)) (hk.row O5.out.2 (by decide)))
  clear hs hk U5 O5
  obtain ⟨ii, hi, hi0, hi1, hi2⟩ := info_parts wordInfo
  have OM := Lib.hid (World.ownsRow_made (base := w6.heap.size) (e := 23) (size := 1) w6 #[] 0 (Nat.le_refl _) (by decide) rfl)
  have AM : Hid (Below w6.heap.size w6 (w6.alloc (.cells #[] 23))) := Lib.hid ((Below.refl _ _).alloc (Nat.le_refl _) _)
  have T1 : Hid (∀ j u, (seeV (fun j => m pid (0 + (j : Int))) 96)[j]? = some u → (w6.alloc (.cells #[] 23)).cell? ((⟨g4, 0, none⟩ : Addr).add j) = some u) := Lib.hid fun j u hu => by
    have h1 := O6.out.1.cells (g := g4) rfl j u hu
    rw [Addr.add_mid] at h1 ⊢
    exact (AM.out.cell (p := ⟨g4, 0 + j, none⟩) (block_lt_of_cell (a := ⟨g4, 0 + j, none⟩) h1)).trans h1
  have ON : Hid (∀ u ∈ seeV (fun j => m pid (0 + (j : Int))) 96, u.oneCell' = true) := Lib.hid fun u hu => by
    unfold seeV at hu
    obtain ⟨j, _, rfl⟩ := List.mem_map.1 hu
    rfl
  have LS : Hid ((seeV (fun j => m pid (0 + (j : Int))) 96).length = 96 * 1) := Lib.hid (by rw [seeV_len])
  have SZ : Hid (W.heap.size ≤ w6.heap.size ∧ ArN G w6.heap.size) := Lib.hid ⟨H6.out.below.size, H6.out.arN⟩
  go_wp2_with (first
    | (at_builtin; refine wpList_append_own _ rfl (.tmp 105) (.tmp 106) 24 rfl w6.heap.size 23 ii (.int .u32 0) 1 4 Tryz.underlying24 hi hi0 hi1 hi2 rfl (by decide) _ 0 [] rfl OM.out ⟨g4, 0, none⟩ 96 c4 (seeV (fun j => m pid (0 + (j : Int))) 96) rfl LS.out T1.out ON.out (by unfold maxLen; omega) (by omega) AM.out.size ?_; intro v8 w8 ho hg _; rw [Nat.zero_add, List.nil_append] at ho; have B8 := Lib.hid (AM.out.grown hg AM.out.size (fun k hk => (OM.out.lt k hk).1)); obtain ⟨g8, c8, rfl⟩ := row_formZ ho (by decide); have O8 := Lib.hid ho; clear ho hg))
  have H8 := Lib.hid (H6.out.step B8.out)
  have K8 := Lib.hid (KeepB.below B8.out)
  clear T1 ON LS OM AM hi hi0 hi1 hi2
  refine wp_loop_rounds 1 ?_
  rw [rounds_succ]
  have I6 := Lib.hid (H8.out.inOk (i := pid) (va := 0) (n := 96) HG.out RM (by decide) (by decide) (by decide) (by decide))
  go_wp2_with fail
  all_goals
    refine (show Calls Tryz.prog 8 #[.pointer (some ⟨I.ss, 0, none⟩), .int .i64 pid, .int .u32 0, .int .i64 96] w8 _ from I6.out).mono ?_
    rintro e w9 ⟨v9, rfl, ho, hs, hk⟩
    obtain ⟨g9, c9, rfl⟩ := row_formZ ho (by decide)
    have P9 := Lib.hid (And.intro ho (And.intro (hk.row O8.out (by decide)) (K8.out.trans hk)))
    have I9 := Lib.hid (hs.inOk (i := q) (va := 0) (n := 96) HG.out RQ (by decide) (by decide) (by decide) (by decide))
    clear ho hs hk I6
    go_wp2_with fail
    refine (show Calls Tryz.prog 8 #[.pointer (some ⟨I.ss, 0, none⟩), .int .i64 q, .int .u32 0, .int .i64 96] w9 _ from I9.out).mono ?_
    rintro e w10 ⟨v10, rfl, ho, hs, hk⟩
    obtain ⟨g10, c10, rfl⟩ := row_formZ ho (by decide)
    have Q1 := Lib.hid (rowAt_see (hk.row P9.out.1 (by decide)) (by decide) rfl)
    have Q2 := Lib.hid (rowAt_see (hk.row P9.out.2.1 (by decide)) (by decide) rfl)
    have Q3 := Lib.hid (rowAt_see ho (by decide) rfl)
    have Q4 := Lib.hid (rowAt_see ((P9.out.2.2.trans hk).row O6.out.2 (by decide)) (by decide) rfl)
    have S1 := Lib.hid (same_yes _ _ _ w10 (by simp) Q1.out Q2.out)
    have H10 := Lib.hid hs
    clear ho hs hk I9 P9
    go_wp2_with fail
    refine S1.out.mono ?_
    rintro e w11 ⟨rfl, hb⟩
    have B11 := Lib.hid hb
    have S2 := Lib.hid (same_yes _ _ _ w11 (by simp) (Q3.out.below hb) (Q4.out.below hb))
    clear hb S1
    go_wp2_with fail
    refine S2.out.mono ?_
    rintro e w12 ⟨rfl, hb⟩
    have I12 := Lib.hid (((H10.out.step B11.out).step hb).inNo (i := pid) (va := va) (n := n) HG.out hp (by omega) (by omega) (by omega))
    clear hb S2
    go_wp2_with fail
    refine I12.out.mono ?_
    rintro e w13 ⟨er2, hner2, rfl, hs, hk⟩
    have der2 : (er2 == 0) = false := by simpa using hner2
    have A14 := Lib.hid (AW.out w13 hs.below)
    have B14 := Lib.hid hs.below
    clear hs hk I12 hner2
    go_wp2_with fail
    refine A14.out.mono ?_
    rintro e w15 ⟨rfl, hb⟩
    have B15 := Lib.hid (B14.out.trans (hb.mono B14.out.size))
    clear hb
    go_wp2
    go_ret
    exact ⟨rfl, B15.out⟩
set_option maxHeartbeats 16000000 in
theorem copyBack_out1_false {pid va : Int} {a : Option Addr} {n c : Nat} {W : World} (h100 : n ≤ 100) (hp : pid = 1 ∨ pid = 2) (hva : 0 ≤ va ∧ va ≤ 4294967295) (hn1 : 1 ≤ n) (hfit : ¬ va + n ≤ 96) (hL : LaidN W) :
    Calls Tryz.prog 3 #[.int .i64 pid, .int .u32 va, .slice a n c, .bool false] W fun e w' => e = .returned (.bool true) ∧ Below W.heap.size W w' := by
  have MD := Lib.hid (made17_ok (q := 60) (h := 20) (Or.inr ⟨rfl, rfl⟩) W hL.lq hL.lw)
  have AW := Lib.hid hL.awake17
  obtain ⟨q, hq⟩ : ∃ q, q = 3 - pid := ⟨_, rfl⟩
  have hq2 : q = 1 ∨ q = 2 := by omega
  have hne : q ≠ pid := by omega
  have RM : Room 60 20 pid := by unfold Room; omega
  have RQ : Room 60 20 q := by unfold Room; omega
  have d0 : IntKind.i64.wrap (3 - pid) = q := (IntWalk.i64_in _ (by omega)).trans hq.symm
  have d1 : ¬ (100 : Int) < (n : Int) := by omega
  have d2 : ¬ pid < 1 := by omega
  have d3 : ¬ (2 : Int) < pid := by omega
  have d4 : (1 : Int) ≤ (n : Int) := by omega
  have d5 : decide (va + (n : Int) ≤ 96) = false := decide_eq_false hfit
  have HF := Lib.hid hfit
  have d9 : (0 : Int) < (n : Int) := by omega
  have d6 : IntKind.i64.wrap va = va := IntWalk.i64_in _ (by omega)
  have d7 : IntKind.i64.wrap (va + (n : Int)) = va + (n : Int) := IntWalk.i64_in _ (by omega)
  clear hL hq hfit
  go_enter Tryz.func3, Tryz.ntmps3
  go_wp2_with fail
  refine (show Calls Tryz.prog 6 #[.int .i64 60] W _ from MD.out).mono ?_
  rintro e w1 ⟨I, G, a1, a2, n1, c1, n2, c2, rfl, hs, hG⟩
  have HG := Lib.hid hG
  obtain ⟨w3, hw3⟩ : ∃ w3, w3 = w1.alloc (.cells #[.slice a1 n1 c1, .slice a2 n2 c2] 31) := ⟨_, rfl⟩
  obtain ⟨m, hm⟩ : ∃ m, m = Z0 := ⟨_, rfl⟩
  have H3 : Hid (CpS W w3 I 60 20 G m) := Lib.hid (by rw [hw3, hm]; exact hs.step ((Below.refl _ _).alloc (Nat.le_refl _) _))
  have I3 := Lib.hid (H3.out.inOk (i := pid) (va := 0) (n := 96) HG.out RM (by decide) (by decide) (by decide) (by decide))
  clear hm hs hG
  go_wp2_with fail
  rw [← hw3]
  clear hw3
  refine (show Calls Tryz.prog 8 #[.pointer (some ⟨I.ss, 0, none⟩), .int .i64 pid, .int .u32 0, .int .i64 96] w3 _ from I3.out).mono ?_
  rintro e w4 ⟨v4, rfl, ho, hs, hk⟩
  obtain ⟨g4, c4, rfl⟩ := row_formZ ho (by decide)
  have O4 := Lib.hid ho
  have I4 := Lib.hid (hs.inOk (i := q) (va := 0) (n := 96) HG.out RQ (by decide) (by decide) (by decide) (by decide))
  clear ho hs hk I3 H3
  go_wp2_with fail
  refine (show Calls Tryz.prog 8 #[.pointer (some ⟨I.ss, 0, none⟩), .int .i64 q, .int .u32 0, .int .i64 96] w4 _ from I4.out).mono ?_
  rintro e w5 ⟨v5, rfl, ho, hs, hk⟩
  obtain ⟨g5, c5, rfl⟩ := row_formZ ho (by decide)
  have O5 := Lib.hid (And.intro (hk.row O4.out (by decide)) ho)
  have U5 := Lib.hid (hs.outNo (i := pid) (va := va) (n := n) HG.out hp (by omega) (by omega) (fun h => by have := HF.out; omega) a c)
  clear ho hs hk I4 O4
  go_wp2_with fail
  refine U5.out.mono ?_
  rintro e w6 ⟨er, rfl, hner, hs, hk⟩
  have der : (er == 0) = false := by simpa using hner.1
  clear hner
  have H6 := Lib.hid hs
  have O6 := Lib.hid (And.intro (hk.row O5.out.1 (by decide)) (hk.row O5.out.2 (by decide)))
  clear hs hk U5 O5
  obtain ⟨ii, hi, hi0, hi1, hi2⟩ := info_parts wordInfo
  have OM := Lib.hid (World.ownsRow_made (base := w6.heap.size) (e := 23) (size := 1) w6 #[] 0 (Nat.le_refl _) (by decide) rfl)
  have AM : Hid (Below w6.heap.size w6 (w6.alloc (.cells #[] 23))) := Lib.hid ((Below.refl _ _).alloc (Nat.le_refl _) _)
  have T1 : Hid (∀ j u, (seeV (fun j => m pid (0 + (j : Int))) 96)[j]? = some u → (w6.alloc (.cells #[] 23)).cell? ((⟨g4, 0, none⟩ : Addr).add j) = some u) := Lib.hid fun j u hu => by
    have h1 := O6.out.1.cells (g := g4) rfl j u hu
    rw [Addr.add_mid] at h1 ⊢
    exact (AM.out.cell (p := ⟨g4, 0 + j, none⟩) (block_lt_of_cell (a := ⟨g4, 0 + j, none⟩) h1)).trans h1
  have ON : Hid (∀ u ∈ seeV (fun j => m pid (0 + (j : Int))) 96, u.oneCell' = true) := Lib.hid fun u hu => by
    unfold seeV at hu
    obtain ⟨j, _, rfl⟩ := List.mem_map.1 hu
    rfl
  have LS : Hid ((seeV (fun j => m pid (0 + (j : Int))) 96).length = 96 * 1) := Lib.hid (by rw [seeV_len])
  have SZ : Hid (W.heap.size ≤ w6.heap.size ∧ ArN G w6.heap.size) := Lib.hid ⟨H6.out.below.size, H6.out.arN⟩
  go_wp2_with (first
    | (at_builtin; refine wpList_append_own _ rfl (.tmp 105) (.tmp 106) 24 rfl w6.heap.size 23 ii (.int .u32 0) 1 4 Tryz.underlying24 hi hi0 hi1 hi2 rfl (by decide) _ 0 [] rfl OM.out ⟨g4, 0, none⟩ 96 c4 (seeV (fun j => m pid (0 + (j : Int))) 96) rfl LS.out T1.out ON.out (by unfold maxLen; omega) (by omega) AM.out.size ?_; intro v8 w8 ho hg _; rw [Nat.zero_add, List.nil_append] at ho; have B8 := Lib.hid (AM.out.grown hg AM.out.size (fun k hk => (OM.out.lt k hk).1)); obtain ⟨g8, c8, rfl⟩ := row_formZ ho (by decide); have O8 := Lib.hid ho; clear ho hg))
  have H8 := Lib.hid (H6.out.step B8.out)
  have K8 := Lib.hid (KeepB.below B8.out)
  clear T1 ON LS OM AM hi hi0 hi1 hi2
  refine wp_loop_rounds 1 ?_
  rw [rounds_succ]
  have I6 := Lib.hid (H8.out.inOk (i := pid) (va := 0) (n := 96) HG.out RM (by decide) (by decide) (by decide) (by decide))
  go_wp2_with fail
  all_goals
    refine (show Calls Tryz.prog 8 #[.pointer (some ⟨I.ss, 0, none⟩), .int .i64 pid, .int .u32 0, .int .i64 96] w8 _ from I6.out).mono ?_
    rintro e w9 ⟨v9, rfl, ho, hs, hk⟩
    obtain ⟨g9, c9, rfl⟩ := row_formZ ho (by decide)
    have P9 := Lib.hid (And.intro ho (And.intro (hk.row O8.out (by decide)) (K8.out.trans hk)))
    have I9 := Lib.hid (hs.inOk (i := q) (va := 0) (n := 96) HG.out RQ (by decide) (by decide) (by decide) (by decide))
    clear ho hs hk I6
    go_wp2_with fail
    refine (show Calls Tryz.prog 8 #[.pointer (some ⟨I.ss, 0, none⟩), .int .i64 q, .int .u32 0, .int .i64 96] w9 _ from I9.out).mono ?_
    rintro e w10 ⟨v10, rfl, ho, hs, hk⟩
    obtain ⟨g10, c10, rfl⟩ := row_formZ ho (by decide)
    have Q1 := Lib.hid (rowAt_see (hk.row P9.out.1 (by decide)) (by decide) rfl)
    have Q2 := Lib.hid (rowAt_see (hk.row P9.out.2.1 (by decide)) (by decide) rfl)
    have Q3 := Lib.hid (rowAt_see ho (by decide) rfl)
    have Q4 := Lib.hid (rowAt_see ((P9.out.2.2.trans hk).row O6.out.2 (by decide)) (by decide) rfl)
    have S1 := Lib.hid (same_yes _ _ _ w10 (by simp) Q1.out Q2.out)
    have H10 := Lib.hid hs
    clear ho hs hk I9 P9
    go_wp2_with fail
    refine S1.out.mono ?_
    rintro e w11 ⟨rfl, hb⟩
    have B11 := Lib.hid hb
    have S2 := Lib.hid (same_yes _ _ _ w11 (by simp) (Q3.out.below hb) (Q4.out.below hb))
    clear hb S1
    go_wp2_with fail
    refine S2.out.mono ?_
    rintro e w12 ⟨rfl, hb⟩
    have I12 := Lib.hid (((H10.out.step B11.out).step hb).inNo (i := pid) (va := va) (n := n) HG.out hp (by omega) (by omega) (fun h => by have := HF.out; omega))
    clear hb S2
    go_wp2_with fail
    refine I12.out.mono ?_
    rintro e w13 ⟨er2, hner2, rfl, hs, hk⟩
    have der2 : (er2 == 0) = false := by simpa using hner2
    have A14 := Lib.hid (AW.out w13 hs.below)
    have B14 := Lib.hid hs.below
    clear hs hk I12 hner2
    go_wp2_with fail
    refine A14.out.mono ?_
    rintro e w15 ⟨rfl, hb⟩
    have B15 := Lib.hid (B14.out.trans (hb.mono B14.out.size))
    clear hb
    go_wp2
    go_ret
    exact ⟨rfl, B15.out⟩
set_option maxHeartbeats 16000000 in
theorem copyBack_out1_true {pid va : Int} {a : Option Addr} {n c : Nat} {W : World} (h100 : n ≤ 100) (hp : pid = 1 ∨ pid = 2) (hva : 0 ≤ va ∧ va ≤ 4294967295) (hn1 : 1 ≤ n) (hfit : ¬ va + n ≤ 96) (hL : LaidN W) :
    Calls Tryz.prog 3 #[.int .i64 pid, .int .u32 va, .slice a n c, .bool true] W fun e w' => e = .returned (.bool true) ∧ Below W.heap.size W w' := by
  have MD := Lib.hid (made17_ok (q := 60) (h := 20) (Or.inr ⟨rfl, rfl⟩) W hL.lq hL.lw)
  have AW := Lib.hid hL.awake17
  obtain ⟨q, hq⟩ : ∃ q, q = 3 - pid := ⟨_, rfl⟩
  have hq2 : q = 1 ∨ q = 2 := by omega
  have hne : q ≠ pid := by omega
  have RM : Room 60 20 pid := by unfold Room; omega
  have RQ : Room 60 20 q := by unfold Room; omega
  have d0 : IntKind.i64.wrap (3 - pid) = q := (IntWalk.i64_in _ (by omega)).trans hq.symm
  have d1 : ¬ (100 : Int) < (n : Int) := by omega
  have d2 : ¬ pid < 1 := by omega
  have d3 : ¬ (2 : Int) < pid := by omega
  have d4 : (1 : Int) ≤ (n : Int) := by omega
  have d5 : decide (va + (n : Int) ≤ 96) = false := decide_eq_false hfit
  have HF := Lib.hid hfit
  have d9 : (0 : Int) < (n : Int) := by omega
  have d6 : IntKind.i64.wrap va = va := IntWalk.i64_in _ (by omega)
  have d7 : IntKind.i64.wrap (va + (n : Int)) = va + (n : Int) := IntWalk.i64_in _ (by omega)
  clear hL hq hfit
  go_enter Tryz.func3, Tryz.ntmps3
  go_wp2_with fail
  refine (show Calls Tryz.prog 6 #[.int .i64 60] W _ from MD.out).mono ?_
  rintro e w1 ⟨I, G, a1, a2, n1, c1, n2, c2, rfl, hs, hG⟩
  have HG := Lib.hid hG
  have H1 := Lib.hid (hs.step ((Below.refl _ _).alloc (Nat.le_refl _) (.cells #[.slice a1 n1 c1, .slice a2 n2 c2] 31)))
  have F1 := Lib.hid (H1.out.fillOk (i := pid) (va := 0) (n := 96) (x := 5) HG.out RM (by decide) (by decide) (by decide) (by decide) (by decide))
  clear hs hG
  go_wp2_with fail
  refine (show Calls Tryz.prog 7 #[.pointer (some ⟨I.ss, 0, none⟩), .int .i64 pid, .int .u32 0, .int .i64 96, .int .u32 5] _ _ from F1.out).mono ?_
  rintro e w2 ⟨rfl, hs, -⟩
  obtain ⟨m2, hm2⟩ : ∃ m, m = updM Z0 pid 0 (fun _ => 5) 96 := ⟨_, rfl⟩
  rw [← hm2] at hs
  have F2 := Lib.hid (hs.fillOk (i := q) (va := 0) (n := 96) (x := 6) HG.out RQ (by decide) (by decide) (by decide) (by decide) (by decide))
  clear hs hm2 H1 F1
  go_wp2_with fail
  refine (show Calls Tryz.prog 7 #[.pointer (some ⟨I.ss, 0, none⟩), .int .i64 q, .int .u32 0, .int .i64 96, .int .u32 6] _ _ from F2.out).mono ?_
  rintro e w3 ⟨rfl, hs, -⟩
  obtain ⟨m, hm⟩ : ∃ m, m = updM m2 q 0 (fun _ => 6) 96 := ⟨_, rfl⟩
  rw [← hm] at hs
  have H3 := Lib.hid hs
  have I3 := Lib.hid (H3.out.inOk (i := pid) (va := 0) (n := 96) HG.out RM (by decide) (by decide) (by decide) (by decide))
  clear hs hm F2
  go_wp2_with fail
  refine (show Calls Tryz.prog 8 #[.pointer (some ⟨I.ss, 0, none⟩), .int .i64 pid, .int .u32 0, .int .i64 96] w3 _ from I3.out).mono ?_
  rintro e w4 ⟨v4, rfl, ho, hs, hk⟩
  obtain ⟨g4, c4, rfl⟩ := row_formZ ho (by decide)
  have O4 := Lib.hid ho
  have I4 := Lib.hid (hs.inOk (i := q) (va := 0) (n := 96) HG.out RQ (by decide) (by decide) (by decide) (by decide))
  clear ho hs hk I3 H3
  go_wp2_with fail
  refine (show Calls Tryz.prog 8 #[.pointer (some ⟨I.ss, 0, none⟩), .int .i64 q, .int .u32 0, .int .i64 96] w4 _ from I4.out).mono ?_
  rintro e w5 ⟨v5, rfl, ho, hs, hk⟩
  obtain ⟨g5, c5, rfl⟩ := row_formZ ho (by decide)
  have O5 := Lib.hid (And.intro (hk.row O4.out (by decide)) ho)
  have U5 := Lib.hid (hs.outNo (i := pid) (va := va) (n := n) HG.out hp (by omega) (by omega) (fun h => by have := HF.out; omega) a c)
  clear ho hs hk I4 O4
  go_wp2_with fail
  refine U5.out.mono ?_
  rintro e w6 ⟨er, rfl, hner, hs, hk⟩
  have der : (er == 0) = false := by simpa using hner.1
  clear hner
  have H6 := Lib.hid hs
  have O6 := Lib.hid (And.intro (hk.row O5.out.1 (by decide)) (hk.row O5.out.2 (by decide)))
  clear hs hk U5 O5
  obtain ⟨ii, hi, hi0, hi1, hi2⟩ := info_parts wordInfo
  have OM := Lib.hid (World.ownsRow_made (base := w6.heap.size) (e := 23) (size := 1) w6 #[] 0 (Nat.le_refl _) (by decide) rfl)
  have AM : Hid (Below w6.heap.size w6 (w6.alloc (.cells #[] 23))) := Lib.hid ((Below.refl _ _).alloc (Nat.le_refl _) _)
  have T1 : Hid (∀ j u, (seeV (fun j => m pid (0 + (j : Int))) 96)[j]? = some u → (w6.alloc (.cells #[] 23)).cell? ((⟨g4, 0, none⟩ : Addr).add j) = some u) := Lib.hid fun j u hu => by
    have h1 := O6.out.1.cells (g := g4) rfl j u hu
    rw [Addr.add_mid] at h1 ⊢
    exact (AM.out.cell (p := ⟨g4, 0 + j, none⟩) (block_lt_of_cell (a := ⟨g4, 0 + j, none⟩) h1)).trans h1
  have ON : Hid (∀ u ∈ seeV (fun j => m pid (0 + (j : Int))) 96, u.oneCell' = true) := Lib.hid fun u hu => by
    unfold seeV at hu
    obtain ⟨j, _, rfl⟩ := List.mem_map.1 hu
    rfl
  have LS : Hid ((seeV (fun j => m pid (0 + (j : Int))) 96).length = 96 * 1) := Lib.hid (by rw [seeV_len])
  have SZ : Hid (W.heap.size ≤ w6.heap.size ∧ ArN G w6.heap.size) := Lib.hid ⟨H6.out.below.size, H6.out.arN⟩
  go_wp2_with (first
    | (at_builtin; refine wpList_append_own _ rfl (.tmp 105) (.tmp 106) 24 rfl w6.heap.size 23 ii (.int .u32 0) 1 4 Tryz.underlying24 hi hi0 hi1 hi2 rfl (by decide) _ 0 [] rfl OM.out ⟨g4, 0, none⟩ 96 c4 (seeV (fun j => m pid (0 + (j : Int))) 96) rfl LS.out T1.out ON.out (by unfold maxLen; omega) (by omega) AM.out.size ?_; intro v8 w8 ho hg _; rw [Nat.zero_add, List.nil_append] at ho; have B8 := Lib.hid (AM.out.grown hg AM.out.size (fun k hk => (OM.out.lt k hk).1)); obtain ⟨g8, c8, rfl⟩ := row_formZ ho (by decide); have O8 := Lib.hid ho; clear ho hg))
  have H8 := Lib.hid (H6.out.step B8.out)
  have K8 := Lib.hid (KeepB.below B8.out)
  clear T1 ON LS OM AM hi hi0 hi1 hi2
  refine wp_loop_rounds 1 ?_
  rw [rounds_succ]
  have I6 := Lib.hid (H8.out.inOk (i := pid) (va := 0) (n := 96) HG.out RM (by decide) (by decide) (by decide) (by decide))
  go_wp2_with fail
  all_goals
    refine (show Calls Tryz.prog 8 #[.pointer (some ⟨I.ss, 0, none⟩), .int .i64 pid, .int .u32 0, .int .i64 96] w8 _ from I6.out).mono ?_
    rintro e w9 ⟨v9, rfl, ho, hs, hk⟩
    obtain ⟨g9, c9, rfl⟩ := row_formZ ho (by decide)
    have P9 := Lib.hid (And.intro ho (And.intro (hk.row O8.out (by decide)) (K8.out.trans hk)))
    have I9 := Lib.hid (hs.inOk (i := q) (va := 0) (n := 96) HG.out RQ (by decide) (by decide) (by decide) (by decide))
    clear ho hs hk I6
    go_wp2_with fail
    refine (show Calls Tryz.prog 8 #[.pointer (some ⟨I.ss, 0, none⟩), .int .i64 q, .int .u32 0, .int .i64 96] w9 _ from I9.out).mono ?_
    rintro e w10 ⟨v10, rfl, ho, hs, hk⟩
    obtain ⟨g10, c10, rfl⟩ := row_formZ ho (by decide)
    have Q1 := Lib.hid (rowAt_see (hk.row P9.out.1 (by decide)) (by decide) rfl)
    have Q2 := Lib.hid (rowAt_see (hk.row P9.out.2.1 (by decide)) (by decide) rfl)
    have Q3 := Lib.hid (rowAt_see ho (by decide) rfl)
    have Q4 := Lib.hid (rowAt_see ((P9.out.2.2.trans hk).row O6.out.2 (by decide)) (by decide) rfl)
    have S1 := Lib.hid (same_yes _ _ _ w10 (by simp) Q1.out Q2.out)
    have H10 := Lib.hid hs
    clear ho hs hk I9 P9
    go_wp2_with fail
    refine S1.out.mono ?_
    rintro e w11 ⟨rfl, hb⟩
    have B11 := Lib.hid hb
    have S2 := Lib.hid (same_yes _ _ _ w11 (by simp) (Q3.out.below hb) (Q4.out.below hb))
    clear hb S1
    go_wp2_with fail
    refine S2.out.mono ?_
    rintro e w12 ⟨rfl, hb⟩
    have I12 := Lib.hid (((H10.out.step B11.out).step hb).inNo (i := pid) (va := va) (n := n) HG.out hp (by omega) (by omega) (fun h => by have := HF.out; omega))
    clear hb S2
    go_wp2_with fail
    refine I12.out.mono ?_
    rintro e w13 ⟨er2, hner2, rfl, hs, hk⟩
    have der2 : (er2 == 0) = false := by simpa using hner2
    have A14 := Lib.hid (AW.out w13 hs.below)
    have B14 := Lib.hid hs.below
    clear hs hk I12 hner2
    go_wp2_with fail
    refine A14.out.mono ?_
    rintro e w15 ⟨rfl, hb⟩
    have B15 := Lib.hid (B14.out.trans (hb.mono B14.out.size))
    clear hb
    go_wp2
    go_ret
    exact ⟨rfl, B15.out⟩
theorem copyBack_walk (pid va : Int) (v : Value) (L : List Int) (t : Bool) (W : World) (_ : -9223372036854775808 ≤ pid ∧ pid ≤ 9223372036854775807) (hva : 0 ≤ va ∧ va ≤ 4294967295) (hv : ArgWs W v L) (hL : LaidN W) :
    Calls Tryz.prog 3 #[.int .i64 pid, .int .u32 va, v, .bool t] W fun e w' => e = .returned (.bool true) ∧ Below W.heap.size W w' := by
  have hv' := hv
  obtain ⟨a, c, rfl, _⟩ := hv'
  obtain ⟨n, hn⟩ : ∃ n, n = L.length := ⟨_, rfl⟩
  rw [← hn] at hv ⊢
  by_cases h1 : 100 < n ∨ ¬ (1 ≤ pid ∧ pid ≤ 2)
  · exact copyBack_far pid va a n c t W hL h1
  · have hp : pid = 1 ∨ pid = 2 := by omega
    have h100 : n ≤ 100 := by omega
    by_cases h2 : 1 ≤ n
    · by_cases h3 : va + n ≤ 96
      · cases t
        · exact copyBack_in_false hn hv h100 hp hva h2 h3 hL
        · exact copyBack_in_true hn hv h100 hp hva h2 h3 hL
      · cases t
        · exact copyBack_out1_false h100 hp hva h2 h3 hL
        · exact copyBack_out1_true h100 hp hva h2 h3 hL
    · cases t
      · exact copyBack_out0_false h100 hp hva (by omega) hL
      · exact copyBack_out0_true h100 hp hva (by omega) hL
end Go.Proofs.YtkenipanpimolaaGreatDoor
