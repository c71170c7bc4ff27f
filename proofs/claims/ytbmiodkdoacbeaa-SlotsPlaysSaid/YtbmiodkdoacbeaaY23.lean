/- The contracts of the document's child and without of layer 13. Condition: the slice is a law's own. -/
import Derived.Test.YtbmiodkdoacbeaaY17
import Derived.Deep.AppendLies
namespace Go.Proofs.Ytbmiodkdoacbeaa
open Go.RowKit Go.Maps
set_option maxRecDepth 100000

theorem prsV_length (L : List Nd) : (prsV L).length = L.length * 4 := by
  induction L with
  | nil => rfl
  | cons y l ih => simp only [prsV, List.flatMap_cons, List.length_append, List.length_cons, List.length_nil] at ih ⊢; omega
theorem prsV_take (L : List Nd) (i : Nat) (hi : i ≤ L.length) : (prsV L).take (i * 4) = prsV (L.take i) := by
  have e : prsV L = prsV (L.take i) ++ prsV (L.drop i) := by rw [← prsV_append, List.take_append_drop]
  have hl : (prsV (L.take i)).length = i * 4 := by rw [prsV_length, List.length_take]; omega
  rw [e, ← hl, List.take_left]
theorem prsV_drop (L : List Nd) (i : Nat) (hi : i ≤ L.length) : (prsV L).drop (i * 4) = prsV (L.drop i) := by
  have e : prsV L = prsV (L.take i) ++ prsV (L.drop i) := by rw [← prsV_append, List.take_append_drop]
  have hl : (prsV (L.take i)).length = i * 4 := by rw [prsV_length, List.length_take]; omega
  conv => lhs; rw [e, ← hl]
  rw [List.drop_left]
theorem prsV_one' {L : List Nd} : ∀ u ∈ prsV L, u.oneCell' = true := fun u hu => by
  obtain ⟨y, _, hy⟩ := List.mem_flatMap.1 hu
  simp only [List.mem_cons, List.not_mem_nil, or_false] at hy
  rcases hy with rfl | rfl | rfl | rfl <;> rfl
/-- A row, whole: its cells, whatever comes. -/
theorem row_allY {w : World} {base q n : Nat} {e : TypeId} {v : Value} {xs : List Value} (h : w.ownsRow base e q v n xs) : (v = .slice none 0 0 ∧ n = 0) ∨ ∃ b c, v = .slice (some ⟨b, 0, none⟩) n c ∧ n ≤ c ∧ c ≤ maxLen ∧ b < w.heap.size ∧
    (∀ V, Below w.heap.size w V → ∀ j u, xs[j]? = some u → V.cell? ((⟨b, 0, none⟩ : Addr).add j) = some u) := by
  have hc := h
  rcases h.2 with ⟨h1, h0⟩ | ⟨g, cap, cur, rfl, hb, hgg, hnc, hcm, _⟩
  · exact Or.inl ⟨h1, h0⟩
  · refine Or.inr ⟨g, cap, rfl, hnc, hcm, lt_of_block hgg, fun V hV j u hu => ?_⟩
    have := hc.cells (g := g) rfl j u hu
    rw [Addr.add_mid] at this ⊢
    rw [hV.cell (p := ⟨g, 0 + j, none⟩) (lt_of_block hgg)]
    exact this
/-- Where the least child is that is a zombie; -1: there is none. -/
def posZ (pid : Int) : List Nd → Nat
  | [] => 0
  | x :: r => if x.2.1 = pid ∧ x.2.2.1 = 3 then 0 else posZ pid r + 1
def chI (L : List Nd) (pid : Int) : Int := if zomb pid L = none then -1 else (posZ pid L : Int)
theorem posZ_of {pid : Int} : ∀ {L : List Nd} {j : Nat}, j < L.length → (∀ i, i < j → ¬ ((L.getD i default).2.1 = pid ∧ (L.getD i default).2.2.1 = 3)) → ((L.getD j default).2.1 = pid ∧ (L.getD j default).2.2.1 = 3) → zomb pid L = some (L.getD j default) ∧ posZ pid L = j
  | x :: r, 0, _, _, h => by
    simp only [List.getD_cons_zero] at h ⊢
    unfold zomb posZ
    rw [if_pos h, List.find?_cons_of_pos (by simp [h.1, h.2])]
    exact ⟨rfl, rfl⟩
  | x :: r, j + 1, hj, hn, h => by
    have h0 := hn 0 (by omega)
    simp only [List.getD_cons_zero] at h0
    have := posZ_of (L := r) (j := j) (by simpa using hj) (fun i hi => by have := hn (i + 1) (by omega); simpa using this) (by simpa using h)
    unfold zomb posZ
    rw [if_neg h0, List.find?_cons_of_neg (by simpa using h0)]
    refine ⟨?_, by rw [this.2]⟩
    simpa [zomb] using this.1
theorem posZ_at {pid : Int} : ∀ {L : List Nd} {c : Nd}, zomb pid L = some c → posZ pid L < L.length ∧ L.getD (posZ pid L) default = c
  | [], c, h => by simp [zomb] at h
  | x :: r, c, h => by
    unfold zomb at h
    unfold posZ
    by_cases e : x.2.1 = pid ∧ x.2.2.1 = 3
    · rw [List.find?_cons_of_pos (by simp [e.1, e.2])] at h
      cases h
      rw [if_pos e]
      simp
    · rw [List.find?_cons_of_neg (by simpa using e)] at h
      rw [if_neg e]
      have := posZ_at (L := r) h
      simpa using this
theorem zomb_noneD {pid : Int} {L : List Nd} (h : ∀ i, i < L.length → ¬ ((L.getD i default).2.1 = pid ∧ (L.getD i default).2.2.1 = 3)) : zomb pid L = none := by
  unfold zomb
  rw [List.find?_eq_none]
  intro y hy
  obtain ⟨i, hi, rfl⟩ := List.getElem_of_mem hy
  have := h i hi
  rw [List.getD_eq_getElem?_getD, List.getElem?_eq_getElem hi, Option.getD_some] at this
  simpa using this
theorem delN_cut {id : Int} : ∀ {L : List Nd} {x : Nd}, L.Pairwise (fun a b => a.1 < b.1) → atN id L = some x → delN id L = L.take (posN id L) ++ L.drop (posN id L + 1)
  | y :: r, x, hp, h => by
    obtain ⟨h1, h2⟩ := List.pairwise_cons.1 hp
    unfold atN at h
    unfold delN posN
    split at h
    · rename_i e
      rw [if_pos e, List.filter_cons_of_neg (by simpa using e), List.filter_eq_self.2 (fun z hz => by have := h1 z hz; simp; omega)]
      rfl
    · rename_i e
      rw [if_neg e, List.filter_cons_of_pos (by simpa using e)]
      have := delN_cut h2 h
      unfold delN at this
      rw [this]
      rfl
set_option maxHeartbeats 2000000 in
theorem rchildY (L : List Nd) (v : Value) (id : Int) (w : World) (hl : L.length ≤ 1000) (h : PrsAt w v L) {k : Int} (hk : chI L id = k) :
    Calls Try.prog 36 #[v, .int .i64 id] w fun e w' => e = .returned (.int .i64 k) ∧ w = w' := by
  have H := Lib.hid h
  obtain ⟨a, c, rfl⟩ := h.form
  obtain ⟨n, hn⟩ : ∃ n, n = L.length := ⟨_, rfl⟩
  rw [← hn] at hl
  have HN := Lib.hid hn
  have HK := Lib.hid hk
  rw [← hn] at H ⊢
  clear hk hn h
  go_enter Try.func36, Try.ntmps36
  go_wp2_with fail
  go_loopw [5] (fun i wr => ∃ j : Nat, i = .int .i64 (j : Int) ∧ j ≤ n ∧ wr = w ∧ ∀ i, i < j → ¬ ((L.getD i default).2.1 = id ∧ (L.getD i default).2.2.1 = 3)) (fun i _ => (n - (intOf i).toNat))
  case atStart => exact ⟨0, rfl, Nat.zero_le _, rfl, fun i hi => absurd hi (Nat.not_lt_zero _)⟩
  case round =>
    obtain ⟨j, rfl, hj, rfl, hlow⟩ := hrel
    have LOW := Lib.hid hlow
    clear hlow
    by_cases hlt : j < n
    · have hjl : j < L.length := by rw [← HN.out]; exact hlt
      obtain ⟨⟨y, y1, y2, y3⟩, hy⟩ : ∃ y, L.getD j default = y := ⟨_, rfl⟩
      obtain ⟨b, rfl, hbl, -, c1, c2, -⟩ := H.out.at_ hjl hy
      simp only at c1 c2
      have LOW2 : ¬ (y1 = id ∧ y2 = 3) → Hid (∀ i, i < j + 1 → ¬ ((L.getD i default).2.1 = id ∧ (L.getD i default).2.2.1 = 3)) := fun hne => Lib.hid fun i hi => by
        by_cases e : i = j
        · rw [e, hy]; exact hne
        · exact LOW.out i (by omega)
      by_cases he : y1 = id
      · have d0 : (y1 == id) = true := by simpa using he
        by_cases h3 : y2 = 3
        · have hp := posZ_of hjl LOW.out (by rw [hy]; exact ⟨he, h3⟩)
          obtain rfl : k = (j : Int) := by rw [← HK.out]; unfold chI; rw [if_neg (by rw [hp.1]; simp), hp.2]
          subst h3
          clear hp hy LOW2
          go_wp2_with fail
          go_ret
          exact ⟨rfl, rfl⟩
        · have d3 : (y2 == 3) = false := by simpa using h3
          have LL := LOW2 (fun h => h3 h.2)
          clear hy LOW2 h3
          go_wp2_with fail
          go_roundw
          case rel => exact ⟨j + 1, by go_num, by omega, by trivial, LL.out⟩
          case measure => simp [intOf]; omega
      · have d0 : (y1 == id) = false := by simpa using he
        have LL := LOW2 (fun h => he h.1)
        clear hy LOW2
        go_wp2_with fail
        go_roundw
        case rel => exact ⟨j + 1, by go_num, by omega, by trivial, LL.out⟩
        case measure => simp [intOf]; omega
    · obtain rfl : j = n := by omega
      obtain rfl : k = -1 := by rw [← HK.out]; unfold chI; rw [if_pos (zomb_noneD (by rw [← HN.out]; exact LOW.out))]
      clear hlt
      go_wp2
      go_ret
      exact ⟨rfl, rfl⟩
/-- A row of processes, of the call's own. -/
def PrsPost (w : World) (L' : List Nd) (e : Ending) (w' : World) : Prop := ∃ v', e = .returned v' ∧ w'.ownsRow w.heap.size 42 4 v' L'.length (prsV L') ∧ Below w.heap.size w w'
set_option maxHeartbeats 4000000 in
theorem rwithoutY {base : Nat} {w : World} {v : Value} {L : List Nd} (ho : w.ownsRow base 42 4 v L.length (prsV L)) (hl : L.length ≤ 100) (k : Nat) (hk : k < L.length) :
    Calls Try.prog 37 #[v, .int .i64 (k : Int)] w (PrsPost w (L.take k ++ L.drop (k + 1))) := by
  obtain ⟨L', hL'⟩ : ∃ L', L' = L.take k ++ L.drop (k + 1) := ⟨_, rfl⟩
  rw [← hL']
  obtain ⟨ii, hi, hi0, hi1, hi2⟩ := info_parts procInfo
  obtain ⟨m, hm⟩ : ∃ m, m = L.length := ⟨_, rfl⟩
  obtain ⟨-, h0⟩ | ⟨g0, c0, rfl, hnc, hcm, hg0, hcs⟩ := row_allY ho
  · omega
  have lt1 : (L.take k).length = k := by rw [List.length_take]; omega
  have lt2 : (L.drop (k + 1)).length = m - (k + 1) := by rw [List.length_drop, hm]
  have DN : Hid (∀ (v : Value) (wx : World), wx.ownsRow w.heap.size 42 4 v (k + (m - (k + 1))) (prsV (L.take k) ++ prsV (L.drop (k + 1))) → wx.ownsRow w.heap.size 42 4 v L'.length (prsV L')) := Lib.hid fun v wx h1 => by
    rw [hL', List.length_append, lt1, lt2, prsV_append]
    exact h1
  have OM := Lib.hid (World.ownsRow_lit (base := w.heap.size) (e := 42) (size := 4) w #[] 0 (Nat.le_refl _) (by decide) rfl)
  have AM : Hid (Below w.heap.size w (w.alloc (.cells #[] 42))) := Lib.hid ((Below.refl _ _).alloc (Nat.le_refl _) _)
  have T1 : Hid (∀ j' u, (prsV (L.take k))[j']? = some u → (w.alloc (.cells #[] 42)).cell? ((⟨g0, 0, none⟩ : Addr).add j') = some u) := Lib.hid fun j' u hu => by
    rw [← prsV_take L k (by omega), List.getElem?_take] at hu
    split at hu
    · exact hcs _ AM.out j' u hu
    · cases hu
  have T2 : Hid (∀ V, Below w.heap.size w V → ∀ j' u, (prsV (L.drop (k + 1)))[j']? = some u → V.cell? ((⟨g0, (k + 1) * 4, none⟩ : Addr).add j') = some u) := Lib.hid fun V hV j' u hu => by
    rw [← prsV_drop L (k + 1) (by omega), List.getElem?_drop] at hu
    have := hcs V hV _ u hu
    rw [Addr.add_mid, Nat.zero_add] at this
    rw [Addr.add_mid]
    exact this
  have L1 : Hid ((prsV (L.take k)).length = k * 4) := Lib.hid (by rw [prsV_length, lt1])
  have L2 : Hid ((prsV (L.drop (k + 1))).length = (m - (k + 1)) * 4) := Lib.hid (by rw [prsV_length, lt2])
  have DR : Hid (k + 1 = c0 → prsV (L.drop (k + 1)) = [] ∧ m - (k + 1) = 0) := Lib.hid fun e => ⟨by rw [List.drop_of_length_le (by omega)]; rfl, by omega⟩
  rw [← hm] at hnc hk hl ⊢
  have j1 : (k : Int) ≤ (c0 : Int) := by omega
  have j2 : k ≤ c0 := by omega
  have j3 : (k : Int) + 1 ≤ (m : Int) := by omega
  have j4 : (m : Int) ≤ (c0 : Int) := by omega
  have j5 : k + 1 ≤ m := by omega
  clear ho hcs hm lt1 lt2 hL'
  obtain ⟨k1, hk1⟩ : ∃ k1 : Nat, k1 = k + 1 := ⟨_, rfl⟩
  rw [← hk1] at DN T2 L2 DR j5
  have wr1 : IntKind.i64.wrap ((k : Int) + 1) = (k1 : Int) := (IntWalk.i64_in _ (by omega)).trans (by omega)
  have j6 : (k1 : Int) ≤ (m : Int) := by omega
  have j7 : (0 : Int) ≤ (k1 : Int) := by omega
  have HK1 := Lib.hid hk1
  clear hk1 j3
  by_cases hcp : k1 = c0
  · obtain ⟨e1, e2⟩ := DR.out hcp
    rw [e1, e2] at DN
    have hm2 : m = k1 := by omega
    clear e1 e2 T2 L2 DR
    subst hcp
    go_enter Try.func37, Try.ntmps37
    go_wp2_with (first | (at_builtin; refine wpList_append_own _ rfl (.tmp 6) (.tmp 9) 28 rfl w.heap.size 42 ii (.agg #[.int .i64 0, .int .i64 0, .int .i64 0, .int .u32 0]) 4 32 Try.underlying28 hi hi0 hi1 hi2 rfl (by decide) _ 0 [] rfl OM.out ⟨g0, 0, none⟩ k _ (prsV (L.take k)) rfl L1.out T1.out prsV_one' (by unfold maxLen; omega) (by omega) AM.out.size ?_; intro v5 w5 ho hg _; rw [Nat.zero_add, List.nil_append] at ho; have B5 := Lib.hid (AM.out.grown hg AM.out.size (fun k hk => (OM.out.lt k hk).1)); obtain ⟨a5, c5, rfl⟩ := owns_slice ho; have O5 := Lib.hid ho; clear ho hg) | (at_builtin; refine wpList_append_own _ rfl (.tmp 11) (.tmp 15) 28 rfl w.heap.size 42 ii (.agg #[.int .i64 0, .int .i64 0, .int .i64 0, .int .u32 0]) 4 32 Try.underlying28 hi hi0 hi1 hi2 rfl (by decide) _ _ _ rfl O5.out ⟨g0, 0, none⟩ 0 _ [] rfl rfl (fun j u hu => by cases hu) (fun u hu => by cases hu) (by unfold maxLen; omega) (by omega) B5.out.size ?_; intro v7 w7 ho hg _; have B7 := Lib.hid (B5.out.grown hg B5.out.size (fun k hk => (O5.out.lt k hk).1)); have O7 := Lib.hid ho; clear ho hg))
    go_ret
    exact ⟨_, rfl, DN.out _ _ O7.out, B7.out⟩
  · go_enter Try.func37, Try.ntmps37
    have hne : c0 ≠ k1 := fun e => hcp e.symm
    go_wp2_with (first | (at_builtin; refine wpList_append_own _ rfl (.tmp 6) (.tmp 9) 28 rfl w.heap.size 42 ii (.agg #[.int .i64 0, .int .i64 0, .int .i64 0, .int .u32 0]) 4 32 Try.underlying28 hi hi0 hi1 hi2 rfl (by decide) _ 0 [] rfl OM.out ⟨g0, 0, none⟩ k c0 (prsV (L.take k)) rfl L1.out T1.out prsV_one' (by unfold maxLen; omega) (by omega) AM.out.size ?_; intro v5 w5 ho hg _; rw [Nat.zero_add, List.nil_append] at ho; have B5 := Lib.hid (AM.out.grown hg AM.out.size (fun k hk => (OM.out.lt k hk).1)); obtain ⟨a5, c5, rfl⟩ := owns_slice ho; have O5 := Lib.hid ho; clear ho hg) | (at_builtin; refine wpList_append_own _ rfl (.tmp 11) (.tmp 15) 28 rfl w.heap.size 42 ii (.agg #[.int .i64 0, .int .i64 0, .int .i64 0, .int .u32 0]) 4 32 Try.underlying28 hi hi0 hi1 hi2 rfl (by decide) _ _ _ rfl O5.out ⟨g0, k1 * 4, none⟩ (m - k1) (c0 - k1) (prsV (L.drop k1)) rfl L2.out (T2.out _ B5.out) prsV_one' (by unfold maxLen; omega) (by omega) B5.out.size ?_; intro v7 w7 ho hg _; have B7 := Lib.hid (B5.out.grown hg B5.out.size (fun k hk => (O5.out.lt k hk).1)); have O7 := Lib.hid ho; clear ho hg))
    go_ret
    exact ⟨_, rfl, DN.out _ _ O7.out, B7.out⟩
end Go.Proofs.Ytbmiodkdoacbeaa
