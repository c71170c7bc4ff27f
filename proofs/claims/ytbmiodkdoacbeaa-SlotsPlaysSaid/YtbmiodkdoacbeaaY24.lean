/- The contracts of the document's New and Add of layer 13. Condition: the table is a law's own. -/
import Derived.Test.YtbmiodkdoacbeaaY23
namespace Go.Proofs.Ytbmiodkdoacbeaa
open Go.RowKit Go.Maps
set_option maxRecDepth 100000

def rtO (n : Int) (v : Value) : Obj := .cells #[.int .i64 n, v] 30 (0, 0)
/-- The document's table, in memory. -/
structure RTab (base : Nat) (w : World) (rb : Nat) (n : Int) (L : List Nd) (v : Value) : Prop where
  box : w.heap[rb]? = some (rtO n v)
  row : w.ownsRow base 42 4 v L.length (prsV L)
  low : base ≤ w.heap.size
theorem RTab.below {base : Nat} {w w' : World} {rb : Nat} {n : Int} {L : List Nd} {v : Value} (h : RTab base w rb n L v) (hb : Below w.heap.size w w') : RTab base w' rb n L v := ⟨below_block hb h.box, own_step h.row hb, Nat.le_trans h.low hb.size⟩
theorem RTab.cells {base : Nat} {w : World} {rb : Nat} {n : Int} {L : List Nd} {v : Value} (h : RTab base w rb n L v) : w.cell? ⟨rb, 0, none⟩ = some (.int .i64 n) ∧ w.cell? ⟨rb, 1, none⟩ = some v ∧ w.frozen? ⟨rb, 0, none⟩ = false ∧ w.frozen? ⟨rb, 1, none⟩ = false := by
  refine ⟨?_, ?_, frozen_of_row w rb 0 _ _ h.box, frozen_of_row w rb 1 _ _ h.box⟩ <;> (rw [cell_of_row _ _ _ _ _ _ h.box]; rfl)
theorem RTab.ne {base : Nat} {w : World} {rb : Nat} {n : Int} {L : List Nd} {v : Value} (h : RTab base w rb n L v) : v.ownBlock ≠ some rb := fun e => by
  obtain ⟨cs, hcs⟩ := own_block h.row e
  rw [h.box] at hcs
  exact absurd (show (some 30 : Option Nat) = some 42 from congrArg kindOf (Option.some.inj hcs)) (by decide)
/-- What the document's calls leave. -/
structure RTo (base : Nat) (w w' : World) (rb : Nat) (n : Int) (L' : List Nd) : Prop where
  ex : ∃ v, RTab base w' rb n L' v ∧ (w.cell? ⟨rb, 1, none⟩ = some v ∨ ∀ g, v.ownBlock = some g → w.heap.size ≤ g)
  only : Only w w' (fun k => k = rb)
theorem RTo.stay {base : Nat} {w w' : World} {rb : Nat} {n : Int} {L : List Nd} {v : Value} (h : RTab base w rb n L v) (hb : Below w.heap.size w w') : RTo base w w' rb n L := ⟨⟨v, h.below hb, Or.inl h.cells.2.1⟩, Only.below hb⟩
/-- The row is put into the table. -/
theorem RTab.store {base : Nat} {w w' : World} {rb : Nat} {n : Int} {L L' : List Nd} {v u : Value} (h : RTab base w rb n L v) (hb : Below w.heap.size w w') (hu : w'.ownsRow w.heap.size 42 4 u L'.length (prsV L')) : RTab base (w'.setCell ⟨rb, 1, none⟩ u) rb n L' u ∧ Only w (w'.setCell ⟨rb, 1, none⟩ u) (fun k => k = rb) := by
  have hx := below_block hb h.box
  refine ⟨⟨heap_setCell_same _ _ 1 _ _ _ hx, ?_, by simpa using Nat.le_trans h.low hb.size⟩, (Only.below hb).trans (Only.grown (grownBy_setCell _ _ _ _) rfl)⟩
  exact ownsRow_only (B := fun k => k = rb) (own_base hu h.low) (Only.grown (grownBy_setCell _ _ _ _) rfl) (fun g hg e => by
    have := (hu.lt g hg).1
    have := lt_of_block h.box
    omega)

theorem rnewY_bad (n : Int) (w : World) (h : ¬ (1 ≤ n ∧ n ≤ 8)) : Calls Try.prog 11 #[.int .i64 n] w fun e w' => e = .returned (.tuple #[.agg #[.int .i64 0, .slice none 0 0], .int .i64 2]) ∧ Below w.heap.size w w' := by
  by_cases h1 : n < 1
  · go_enter Try.func11, Try.ntmps11
    go_wp2
    refine ⟨rfl, _, ?_, rfl, ?_⟩
    · simp [results, Try.results11, go_sem]
    · exact (Below.refl _ _).alloc (Nat.le_refl _) _
  · have h2 : 8 < n := by omega
    go_enter Try.func11, Try.ntmps11
    go_wp2
    refine ⟨rfl, _, ?_, rfl, ?_⟩
    · simp [results, Try.results11, go_sem]
    · exact (Below.refl _ _).alloc (Nat.le_refl _) _
set_option maxHeartbeats 1000000 in
theorem rnewY_ok (n : Int) (w : World) (h : 1 ≤ n ∧ n ≤ 8) : Calls Try.prog 11 #[.int .i64 n] w fun e w' => ∃ v, e = .returned (.tuple #[.agg #[.int .i64 n, v], .int .i64 0]) ∧ w'.ownsRow w.heap.size 42 4 v 1 (prsV [(1, 0, 1, 0)]) ∧ Below w.heap.size w w' := by
  have n1 := h.1
  have n2 := h.2
  clear h
  go_enter Try.func11, Try.ntmps11
  go_wp2
  refine ⟨rfl, _, ?_, _, rfl, World.ownsRow_lit (base := w.heap.size) (e := 42) (size := 4) (w.alloc (.cells #[.int .i64 n, .slice (some ⟨w.heap.size + 1, 0, none⟩) 1 1] 30)) #[.int .i64 1, .int .i64 0, .int .i64 1, .int .u32 0] 1 (by simp) (by decide) rfl, below_two _ _ _⟩
  simp [results, Try.results11, go_sem]

theorem prs_at (w : World) (a b c d : Value) (t : TypeId) : ∀ j u, [a, b, c, d][j]? = some u → (w.alloc (.cells #[a, b, c, d] t)).cell? ((⟨w.heap.size, 0, none⟩ : Addr).add j) = some u := fun j u hu => by
  rw [Addr.add_mid, Nat.zero_add, cell_of_row _ _ _ _ _ _ (heap_alloc_new w _)]
  simpa using hu
/-- What the document's Add answers, and leaves. -/
def RAns (base : Nat) (w : World) (rb : Nat) (n : Int) (L' : List Nd) (pr er : Int) (e : Ending) (w' : World) : Prop := e = .returned (.tuple #[.int .i64 pr, .int .i64 er]) ∧ RTo base w w' rb n L'
set_option maxHeartbeats 16000000 in
theorem raddY {base : Nat} {w : World} {rb : Nat} {n : Int} {L : List Nd} {v : Value} (h : RTab base w rb n L v) (hg : GoodY n L) (parent : Int) :
    Calls Try.prog 23 #[.pointer (some ⟨rb, 0, none⟩), .int .i64 parent] w (RAns base w rb n (addL n L parent) (addP n L parent) (addE n L parent)) := by
  obtain ⟨ii, hi, hi0, hi1, hi2⟩ := info_parts procInfo
  have hl8 : L.length ≤ 8 := by have := hg.len; have := hg.most; omega
  have H := Lib.hid h
  have HG := Lib.hid hg
  have NA := Lib.hid (PrsAt.of_row h.row)
  have ST := Lib.hid (fun w' (hb : Below w.heap.size w w') => RTo.stay h hb)
  obtain ⟨c0, c1, -, -⟩ := h.cells
  cases hp : atN parent L with
  | none =>
    have e4 : addE n L parent = 4 := by unfold addE; rw [hp]
    have eP : addP n L parent = 0 := by unfold addP; rw [e4]; rfl
    have eL : addL n L parent = L := by unfold addL; rw [e4]; rfl
    rw [e4, eP, eL]
    have AT := Lib.hid (ratY L v parent w (by omega) NA.out (atIY_none hp))
    clear hp e4 eP eL h hg
    go_enter Try.func23, Try.ntmps23
    go_wp2_with fail
    refine AT.out.mono ?_
    rintro e w1 ⟨rfl, rfl⟩
    go_wp2
    go_ret2
    exact ⟨rfl, ST.out _ (Below.refl _ _)⟩
  | some x =>
    obtain ⟨hpl, hpx⟩ := pos_at hp
    obtain ⟨q, hq⟩ : ∃ q, posN parent L = q := ⟨_, rfl⟩
    have AT := Lib.hid (ratY L v parent w (by omega) NA.out ((atIY_some hp).trans (by rw [hq])))
    rw [hq] at hpl hpx
    obtain ⟨m, hm⟩ : ∃ m, m = L.length := ⟨_, rfl⟩
    obtain ⟨-, h0⟩ | ⟨g0, cp, rfl, hnc, hcm, hg0, hcs⟩ := row_allY h.row
    · omega
    rw [← hm] at NA AT c1 H hnc
    have HM := Lib.hid hm
    obtain ⟨b', hb', -, -, -, x2, -⟩ := NA.out.at_ hpl hpx
    obtain rfl : g0 = b' := by simpa using hb'
    have hqm : q < m := by omega
    by_cases h3 : x.2.2.1 = 3
    · have e9 : addE n L parent = 9 := by unfold addE; rw [hp]; simp only; rw [if_pos h3]
      have eP : addP n L parent = 0 := by unfold addP; rw [e9]; rfl
      have eL : addL n L parent = L := by unfold addL; rw [e9]; rfl
      rw [e9, eP, eL]
      rw [h3] at x2
      clear hp e9 eP eL h hg h3 hcs hpx hpl hq hm hb'
      go_enter Try.func23, Try.ntmps23
      go_wp2_with fail
      refine AT.out.mono ?_
      rintro e w1 ⟨rfl, rfl⟩
      go_wp2
      go_ret2
      exact ⟨rfl, ST.out _ (Below.refl _ _)⟩
    · have hb3 : (x.2.2.1 == 3) = false := by simpa using h3
      have hsp := freeN_spec (k := 1) hg.up (fun p hp => (hg.ok p hp).1.1)
      have hfu := freeN_full (n := n) (k := 1) hg.up (fun p hp => (hg.ok p hp).1) (by have := hg.most; omega)
      have hn8 := hg.most
      obtain ⟨F, hF⟩ : ∃ F, F = freeN 1 L := ⟨_, rfl⟩
      rw [← hF] at hsp hfu
      obtain ⟨⟨hF1, hF2⟩, hFno, hFin, hF4, hF5⟩ := hsp
      have AI : Hid (∀ j, 1 ≤ j → j < F → ∃ k : Nat, Calls Try.prog 16 #[.slice (some ⟨g0, 0, none⟩) m cp, .int .i64 j] w fun e w' => e = .returned (.int .i64 (k : Int)) ∧ w = w') := Lib.hid fun j j1 j2 => by
        obtain ⟨y, hy, hyj⟩ := hFin j j1 j2
        have hay : atN j L = some y := hyj ▸ atN_mem hg.up hy
        exact ⟨_, ratY L _ j w (by omega) NA.out (atIY_some hay)⟩
      have AF := Lib.hid (ratY L _ F w (by omega) NA.out (atIY_none (atN_none.2 hFno)))
      by_cases hfull : (L.length : Int) = n
      · have e3 : addE n L parent = 3 := by unfold addE; rw [hp]; simp only; rw [if_neg h3, if_pos hfull]
        have eP : addP n L parent = 0 := by unfold addP; rw [e3]; rfl
        have eL : addL n L parent = L := by unfold addL; rw [e3]; rfl
        have hgt : n < F := hfu.2 (by omega)
        rw [e3, eP, eL]
        clear hp e3 eP eL h hg h3 hcs hpx hpl hq hm hb' hFno hFin hF4 hF5 hfu hF
        generalize x.2.2.1 = u at *
        go_enter Try.func23, Try.ntmps23
        go_wp2_with fail
        refine AT.out.mono ?_
        rintro e w1 ⟨rfl, rfl⟩
        go_wp2_with fail
        go_loopw [7] (fun i wr => ∃ j : Int, i = .int .i64 j ∧ (1 ≤ j ∧ j ≤ F) ∧ w = wr) (fun i _ => (F + 1 - intOf i).toNat)
        case atStart => exact ⟨1, rfl, ⟨by decide, hF1⟩, rfl⟩
        case round =>
          obtain ⟨j, rfl, ⟨j1, j2⟩, rfl⟩ := hrel
          by_cases hlt : j < F
          · obtain ⟨k, hk⟩ := AI.out j j1 hlt
            have HK := Lib.hid hk
            clear hk
            go_wp2_with fail
            refine HK.out.mono ?_
            rintro e w1 ⟨rfl, rfl⟩
            go_wp2
            go_roundw
            case rel => exact ⟨j + 1, by go_num, ⟨by omega, by omega⟩, by trivial⟩
            case measure => simp [intOf]; omega
          · obtain rfl : j = F := by omega
            go_wp2_with fail
            refine AF.out.mono ?_
            rintro e w1 ⟨rfl, rfl⟩
            go_wp2
            go_ret2
            exact ⟨rfl, ST.out _ (Below.refl _ _)⟩
      · have e0 : addE n L parent = 0 := by unfold addE; rw [hp]; simp only; rw [if_neg h3, if_neg hfull]
        have eP : addP n L parent = F := by unfold addP; rw [if_pos e0, hF]
        have eL : addL n L parent = insN (F, parent, 1, 0) L := by unfold addL; rw [if_pos e0, hF]
        have hle : F ≤ n := by
          by_cases hc : n < F
          · have := hfu.1 hc; omega
          · omega
        rw [e0, eP, eL]
        obtain ⟨k, hk⟩ : ∃ k : Nat, (k : Int) = F - 1 := ⟨(F - 1).toNat, by omega⟩
        have hkm : k ≤ m := by omega
        have hcut := insN_cut (x := (F, parent, 1, 0)) (L := L) (k := k) (by omega) (fun i hi => by have := hF4 i (by omega) (by omega); simp only; omega) (fun hlt => by have := hF5 k hlt (by omega); simp only; omega)
        have lt1 : (L.take k).length = k := by rw [List.length_take]; omega
        have lt2 : (L.drop k).length = m - k := by rw [List.length_drop, hm]
        have DN : Hid (∀ (u : Value) (wx : World), wx.ownsRow w.heap.size 42 4 u (k + 1 + (m - k)) (prsV (L.take k) ++ [.int .i64 F, .int .i64 parent, .int .i64 1, .int .u32 0] ++ prsV (L.drop k)) → Below w.heap.size w wx → RAns base w rb n (insN (F, parent, 1, 0) L) F 0 (.returned (.tuple #[.int .i64 F, .int .i64 0])) (wx.setCell ⟨rb, 1, none⟩ u)) := Lib.hid fun u wx h1 h2 => by
          have h3 : wx.ownsRow w.heap.size 42 4 u (insN (F, parent, 1, 0) L).length (prsV (insN (F, parent, 1, 0) L)) := by
            rw [hcut, List.length_append, List.length_append, lt1, lt2, prsV_append, prsV_append, prsV_one]
            exact h1
          obtain ⟨s1, s2⟩ := H.out.store h2 h3
          exact ⟨rfl, ⟨⟨u, s1, Or.inr fun g hg => (h3.lt g hg).1⟩, s2⟩⟩
        have RB : Hid (∀ V, Below w.heap.size w V → V.cell? ⟨rb, 1, none⟩ = some (.slice (some ⟨g0, 0, none⟩) m cp) ∧ V.frozen? ⟨rb, 1, none⟩ = false) := Lib.hid fun V hV => ⟨(H.out.below hV).cells.2.1, (H.out.below hV).cells.2.2.2⟩
        have OM := Lib.hid (World.ownsRow_lit (base := w.heap.size) (e := 42) (size := 4) w #[] 0 (Nat.le_refl _) (by decide) rfl)
        have AM : Hid (Below w.heap.size w (w.alloc (.cells #[] 42))) := Lib.hid ((Below.refl _ _).alloc (Nat.le_refl _) _)
        have T1 : Hid (∀ j' u, (prsV (L.take k))[j']? = some u → (w.alloc (.cells #[] 42)).cell? ((⟨g0, 0, none⟩ : Addr).add j') = some u) := Lib.hid fun j' u hu => by
          rw [← prsV_take L k (by omega), List.getElem?_take] at hu
          split at hu
          · exact hcs _ AM.out j' u hu
          · cases hu
        have T2 : Hid (∀ V, Below w.heap.size w V → ∀ j' u, (prsV (L.drop k))[j']? = some u → V.cell? ((⟨g0, k * 4, none⟩ : Addr).add j') = some u) := Lib.hid fun V hV j' u hu => by
          rw [← prsV_drop L k (by omega), List.getElem?_drop] at hu
          have := hcs V hV _ u hu
          rw [Addr.add_mid, Nat.zero_add] at this
          rw [Addr.add_mid]
          exact this
        have L1 : Hid ((prsV (L.take k)).length = k * 4) := Lib.hid (by rw [prsV_length, lt1])
        have L2 : Hid ((prsV (L.drop k)).length = (m - k) * 4) := Lib.hid (by rw [prsV_length, lt2])
        have DR : Hid (k = m → prsV (L.drop k) = []) := Lib.hid fun e => by rw [List.drop_of_length_le (by omega)]; rfl
        have wrp : IntKind.i64.wrap (F - 1) = (k : Int) := (IntWalk.i64_in _ (by omega)).trans hk.symm
        have j1 : (k : Int) ≤ (cp : Int) := by omega
        have j2 : k ≤ cp := by omega
        have j3 : (k : Int) ≤ (m : Int) := by omega
        have j4 : (m : Int) ≤ (cp : Int) := by omega
        have j0 : (0 : Int) ≤ (k : Int) := by omega
        have hm8 : m ≤ 8 := by omega
        have hrb : rb < w.heap.size := lt_of_block h.box
        clear hp e0 eP eL h hg h3 hcs hpx hpl hq hm hb' hFno hFin hF4 hF5 hfu hF hcut lt1 lt2 hfull hk
        generalize x.2.2.1 = u at *
        go_enter Try.func23, Try.ntmps23
        go_wp2_with fail
        refine AT.out.mono ?_
        rintro e w1 ⟨rfl, rfl⟩
        go_wp2_with fail
        go_loopw [7] (fun i wr => ∃ j : Int, i = .int .i64 j ∧ (1 ≤ j ∧ j ≤ F) ∧ w = wr) (fun i _ => (F + 1 - intOf i).toNat)
        case atStart => exact ⟨1, rfl, ⟨by decide, hF1⟩, rfl⟩
        case round =>
          obtain ⟨j, rfl, ⟨i1, i2⟩, rfl⟩ := hrel
          by_cases hlt : j < F
          · obtain ⟨k', hk'⟩ := AI.out j i1 hlt
            have HK := Lib.hid hk'
            clear hk'
            go_wp2_with fail
            refine HK.out.mono ?_
            rintro e w1 ⟨rfl, rfl⟩
            go_wp2
            go_roundw
            case rel => exact ⟨j + 1, by go_num, ⟨by omega, by omega⟩, by trivial⟩
            case measure => simp [intOf]; omega
          · obtain rfl : j = F := by omega
            clear hlt
            by_cases hcp : k = cp
            · have hkm2 : k = m := by omega
              have DN2 := Lib.hid (DR.out hkm2)
              rw [DN2.out, show m - k = 0 by omega] at DN
              clear T2 L2 DR DN2
              subst hkm2
              subst hcp
              go_wp2_with fail
              refine AF.out.mono ?_
              rintro e w1 ⟨rfl, rfl⟩
              go_wp2_with (first
                | (at_builtin; refine wpList_append_own _ rfl (.tmp 41) (.tmp 48) 28 rfl w.heap.size 42 ii (.agg #[.int .i64 0, .int .i64 0, .int .i64 0, .int .u32 0]) 4 32 Try.underlying28 hi hi0 hi1 hi2 rfl (by decide) _ 0 [] rfl OM.out ⟨g0, 0, none⟩ _ _ (prsV (L.take _)) rfl L1.out T1.out prsV_one' (by unfold maxLen; omega) (by omega) AM.out.size ?_; intro v5 w5 ho hg _; rw [Nat.zero_add, List.nil_append] at ho; have B5 := Lib.hid (AM.out.grown hg AM.out.size (fun k hk => (OM.out.lt k hk).1)); obtain ⟨a5, c5, rfl⟩ := owns_slice ho; have O5 := Lib.hid (ho.alloc (.cells #[.int .i64 j, .int .i64 parent, .int .i64 1, .int .u32 0] 42)); have A5 : Hid (Below w.heap.size w (w5.alloc (.cells #[.int .i64 j, .int .i64 parent, .int .i64 1, .int .u32 0] 42))) := Lib.hid (B5.out.alloc B5.out.size _); clear ho hg)
                | (at_builtin; refine wpList_append_own _ rfl (.tmp 50) (.tmp 54) 28 rfl w.heap.size 42 ii (.agg #[.int .i64 0, .int .i64 0, .int .i64 0, .int .u32 0]) 4 32 Try.underlying28 hi hi0 hi1 hi2 rfl (by decide) _ _ _ rfl O5.out ⟨w5.heap.size, 0, none⟩ 1 1 [.int .i64 j, .int .i64 parent, .int .i64 1, .int .u32 0] rfl rfl (prs_at _ _ _ _ _ _) (by simp [Value.oneCell']) (by unfold maxLen; omega) (by omega) A5.out.size ?_; intro v6 w6 ho hg _; have B6 := Lib.hid (A5.out.grown hg A5.out.size (fun k hk => (O5.out.lt k hk).1)); have O6 := Lib.hid ho; obtain ⟨y6, -⟩ := RB.out w6 B6.out; clear ho hg)
                | (at_builtin; refine wpList_append_own _ rfl (.tmp 57) (.tmp 64) 28 rfl w.heap.size 42 ii (.agg #[.int .i64 0, .int .i64 0, .int .i64 0, .int .u32 0]) 4 32 Try.underlying28 hi hi0 hi1 hi2 rfl (by decide) _ _ _ rfl O6.out ⟨g0, 0, none⟩ 0 _ [] rfl rfl (fun j u hu => by cases hu) (fun u hu => by cases hu) (by unfold maxLen; omega) (by omega) B6.out.size ?_; intro v7 w7 ho hg _; obtain ⟨a7, c7, rfl⟩ := owns_slice ho; have B7 := Lib.hid (B6.out.grown hg B6.out.size (fun k hk => (O6.out.lt k hk).1)); have O7 := Lib.hid ho; obtain ⟨y7, f7⟩ := RB.out w7 B7.out; clear ho hg))
              go_ret2
              exact DN.out _ _ O7.out B7.out
            · have hne : cp ≠ k := fun e => hcp e.symm
              clear DR
              go_wp2_with fail
              refine AF.out.mono ?_
              rintro e w1 ⟨rfl, rfl⟩
              go_wp2_with (first
                | (at_builtin; refine wpList_append_own _ rfl (.tmp 41) (.tmp 48) 28 rfl w.heap.size 42 ii (.agg #[.int .i64 0, .int .i64 0, .int .i64 0, .int .u32 0]) 4 32 Try.underlying28 hi hi0 hi1 hi2 rfl (by decide) _ 0 [] rfl OM.out ⟨g0, 0, none⟩ k cp (prsV (L.take k)) rfl L1.out T1.out prsV_one' (by unfold maxLen; omega) (by omega) AM.out.size ?_; intro v5 w5 ho hg _; rw [Nat.zero_add, List.nil_append] at ho; have B5 := Lib.hid (AM.out.grown hg AM.out.size (fun k hk => (OM.out.lt k hk).1)); obtain ⟨a5, c5, rfl⟩ := owns_slice ho; have O5 := Lib.hid (ho.alloc (.cells #[.int .i64 j, .int .i64 parent, .int .i64 1, .int .u32 0] 42)); have A5 : Hid (Below w.heap.size w (w5.alloc (.cells #[.int .i64 j, .int .i64 parent, .int .i64 1, .int .u32 0] 42))) := Lib.hid (B5.out.alloc B5.out.size _); clear ho hg)
                | (at_builtin; refine wpList_append_own _ rfl (.tmp 50) (.tmp 54) 28 rfl w.heap.size 42 ii (.agg #[.int .i64 0, .int .i64 0, .int .i64 0, .int .u32 0]) 4 32 Try.underlying28 hi hi0 hi1 hi2 rfl (by decide) _ _ _ rfl O5.out ⟨w5.heap.size, 0, none⟩ 1 1 [.int .i64 j, .int .i64 parent, .int .i64 1, .int .u32 0] rfl rfl (prs_at _ _ _ _ _ _) (by simp [Value.oneCell']) (by unfold maxLen; omega) (by omega) A5.out.size ?_; intro v6 w6 ho hg _; have B6 := Lib.hid (A5.out.grown hg A5.out.size (fun k hk => (O5.out.lt k hk).1)); have O6 := Lib.hid ho; obtain ⟨y6, -⟩ := RB.out w6 B6.out; clear ho hg)
                | (at_builtin; refine wpList_append_own _ rfl (.tmp 57) (.tmp 64) 28 rfl w.heap.size 42 ii (.agg #[.int .i64 0, .int .i64 0, .int .i64 0, .int .u32 0]) 4 32 Try.underlying28 hi hi0 hi1 hi2 rfl (by decide) _ _ _ rfl O6.out ⟨g0, k * 4, none⟩ (m - k) (cp - k) (prsV (L.drop k)) rfl L2.out (T2.out _ B6.out) prsV_one' (by unfold maxLen; omega) (by omega) B6.out.size ?_; intro v7 w7 ho hg _; obtain ⟨a7, c7, rfl⟩ := owns_slice ho; have B7 := Lib.hid (B6.out.grown hg B6.out.size (fun k hk => (O6.out.lt k hk).1)); have O7 := Lib.hid ho; obtain ⟨y7, f7⟩ := RB.out w7 B7.out; clear ho hg))
              go_ret2
              exact DN.out _ _ O7.out B7.out
end Go.Proofs.Ytbmiodkdoacbeaa
