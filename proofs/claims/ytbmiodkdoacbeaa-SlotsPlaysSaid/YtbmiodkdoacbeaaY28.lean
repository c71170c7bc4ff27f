/- The contract of the document's Exit of layer 13. Condition: the table is a law's own. -/
import Derived.Test.YtbmiodkdoacbeaaY27
namespace Go.Proofs.Ytbmiodkdoacbeaa
open Go.RowKit Go.Maps
set_option maxRecDepth 100000

theorem prsV_cons (z : Nd) (r : List Nd) : prsV (z :: r) = [.int .i64 z.1, .int .i64 z.2.1, .int .i64 z.2.2.1, .int .u32 z.2.2.2] ++ prsV r := by simp [prsV]
theorem prsV_set3 (L : List Nd) (i : Nat) (n : Nd) (s : Int) (hi : i < L.length) (hn : L.getD i default = n) : prsV (L.set i (n.1, n.2.1, n.2.2.1, s)) = (prsV L).set (i * 4 + 3) (.int .u32 s) := by
  induction L generalizing i with
  | nil => simp at hi
  | cons y l ih =>
    cases i with
    | zero =>
      simp only [List.getD_cons_zero] at hn
      subst hn
      simp [prsV]
    | succ i =>
      have := ih i (by simpa using hi) (by simpa using hn)
      rw [List.set_cons_succ, prsV_cons, this, prsV_cons, List.set_append_right _ _ (by simp; omega)]
      congr 2
      simp; omega
theorem prsV_set1 (L : List Nd) (i : Nat) (n : Nd) (s : Int) (hi : i < L.length) (hn : L.getD i default = n) : prsV (L.set i (n.1, s, n.2.2)) = (prsV L).set (i * 4 + 1) (.int .i64 s) := by
  induction L generalizing i with
  | nil => simp at hi
  | cons y l ih =>
    cases i with
    | zero =>
      simp only [List.getD_cons_zero] at hn
      subst hn
      simp [prsV]
    | succ i =>
      have := ih i (by simpa using hi) (by simpa using hn)
      rw [List.set_cons_succ, prsV_cons, this, prsV_cons, List.set_append_right _ _ (by simp; omega)]
      congr 2
      simp; omega
theorem map_zomS (id c : Int) : ∀ {L : List Nd}, L.Pairwise (fun a b => a.1 < b.1) → ∀ {n : Nd}, atN id L = some n → L.map (zomS id c) = L.set (posN id L) (n.1, n.2.1, 3, c)
  | y :: r, hp, n, h => by
    obtain ⟨h1, h2⟩ := List.pairwise_cons.1 hp
    unfold atN at h
    unfold posN
    split at h
    · rename_i e
      cases h
      rw [if_pos e, List.set_cons_zero, List.map_cons]
      have : r.map (zomS id c) = r := by
        conv => rhs; rw [← List.map_id r]
        apply List.map_congr_left
        intro x hx
        have := h1 x hx
        unfold zomS
        rw [if_neg (by omega)]; rfl
      rw [this]
      unfold zomS
      rw [if_pos e]
    · rename_i e
      rw [if_neg e, List.set_cons_succ, List.map_cons, map_zomS id c h2 h]
      unfold zomS
      rw [if_neg e]
theorem zom_rows {L : List Nd} {pid c : Int} {x : Nd} {q : Nat} (hp : L.Pairwise (fun a b => a.1 < b.1)) (h : atN pid L = some x) (hq : posN pid L = q) : prsV (L.map (setSt pid 3)) = (prsV L).set (q * 4 + 2) (.int .i64 3) ∧ prsV (L.map (zomS pid c)) = (prsV (L.map (setSt pid 3))).set (q * 4 + 3) (.int .u32 c) := by
  obtain ⟨h1, h2⟩ := pos_at h
  rw [hq] at h1 h2
  refine ⟨by rw [map_setSt _ _ hp h, hq]; exact prsV_set2 L q x 3 h1 h2, ?_⟩
  rw [map_setSt _ _ hp h, map_zomS _ _ hp h, hq]
  have := prsV_set3 (L.set q (x.1, x.2.1, 3, x.2.2.2)) q (x.1, x.2.1, 3, x.2.2.2) c (by simpa using h1) (by simp [List.getD_eq_getElem?_getD, h1])
  rw [List.set_set] at this
  exact this
/-- The children ahead of place j are 1's. -/
def rePre (pid : Int) (j : Nat) (Z : List Nd) : List Nd := (Z.take j).map (reUp pid 1) ++ Z.drop j
theorem rePre_len (pid : Int) (j : Nat) (Z : List Nd) : (rePre pid j Z).length = Z.length := by unfold rePre; simp; omega
theorem rePre_get {pid : Int} : ∀ {Z : List Nd} {j : Nat}, j < Z.length → (rePre pid j Z).getD j default = Z.getD j default
  | x :: r, 0, _ => by simp [rePre]
  | x :: r, j + 1, h => by
    have := rePre_get (pid := pid) (Z := r) (j := j) (by simpa using h)
    simpa [rePre] using this
theorem rePre_step {pid : Int} : ∀ {Z : List Nd} {j : Nat}, j < Z.length → rePre pid (j + 1) Z = (rePre pid j Z).set j (reUp pid 1 (Z.getD j default))
  | x :: r, 0, _ => by simp [rePre]
  | x :: r, j + 1, h => by
    have := rePre_step (pid := pid) (Z := r) (j := j) (by simpa using h)
    simpa [rePre] using this
theorem rePre_skip {pid : Int} : ∀ {Z : List Nd} {j : Nat}, j < Z.length → (Z.getD j default).2.1 ≠ pid → rePre pid (j + 1) Z = rePre pid j Z
  | x :: r, 0, _, h => by
    simp only [List.getD_cons_zero] at h
    simp [rePre, reUp, h]
  | x :: r, j + 1, h, h2 => by
    have := rePre_skip (pid := pid) (Z := r) (j := j) (by simpa using h) (by simpa using h2)
    simpa [rePre] using this
theorem rePre_all (pid : Int) (Z : List Nd) : rePre pid Z.length Z = Z.map (reUp pid 1) := by simp [rePre]
set_option maxHeartbeats 16000000 in
theorem rexitY {base : Nat} {w : World} {rb : Nat} {n : Int} {L : List Nd} {v : Value} (h : RTab base w rb n L v) (hg : GoodY n L) (pid cd : Int) (hcd : 0 ≤ cd ∧ cd ≤ 4294967295) :
    Calls Try.prog 24 #[.pointer (some ⟨rb, 0, none⟩), .int .i64 pid, .int .u32 cd] w (RReap base w rb n (exitE L pid) (exitL n L pid cd) (exitR n L pid cd)) := by
  obtain ⟨ii, hi, hi0, hi1, hi2⟩ := info_parts procInfo
  have hl8 : L.length ≤ 8 := by have := hg.len; have := hg.most; omega
  have HG := Lib.hid hg
  have HCD := Lib.hid hcd
  have NA := Lib.hid (PrsAt.of_row h.row)
  obtain ⟨kk, hkk⟩ : ∃ kk, atIY L pid = kk := ⟨_, rfl⟩
  have AT := Lib.hid (ratY L v pid w (by omega) NA.out hkk)
  obtain ⟨a, c, rfl⟩ := NA.out.form
  have H := Lib.hid h
  obtain ⟨m, hm⟩ : ∃ m, m = L.length := ⟨_, rfl⟩
  have HM := Lib.hid hm
  obtain ⟨c0, c1, f0, f1⟩ := h.cells
  rw [← hm] at NA AT c1 H hl8
  have STAY : Hid (∀ er, exitE L pid = er → er ≠ 0 → RReap base w rb n (exitE L pid) (exitL n L pid cd) (exitR n L pid cd) (.returned (.tuple #[.slice none 0 0, .int .i64 er])) w) := Lib.hid fun er he hne => by
    unfold exitL exitR
    rw [he, if_neg hne, if_neg hne]
    exact RReap.none_ H.out er (Below.refl _ _)
  clear h hg hm hcd
  cases hp : atN pid L with
  | none =>
    obtain rfl : kk = -1 := by rw [← hkk, atIY_none hp]
    have ST := Lib.hid (STAY.out 4 (by unfold exitE; rw [hp]) (by decide))
    clear STAY hp hkk
    go_enter Try.func24, Try.ntmps24
    go_wp2_with fail
    refine AT.out.mono ?_
    rintro e w1 ⟨rfl, rfl⟩
    go_wp2
    go_ret2
    exact ST.out
  | some x =>
    obtain ⟨q, hq⟩ : ∃ q, posN pid L = q := ⟨_, rfl⟩
    obtain rfl : kk = (q : Int) := by rw [← hkk, atIY_some hp, hq]
    obtain ⟨hpl, hpx⟩ := pos_at hp
    rw [hq] at hpl hpx
    by_cases hone : pid = 1
    · have ST := Lib.hid (STAY.out 8 (by unfold exitE; rw [hp]; simp only; rw [if_pos hone]) (by decide))
      subst hone
      clear STAY hp hkk hpl hpx hq
      go_enter Try.func24, Try.ntmps24
      go_wp2_with fail
      refine AT.out.mono ?_
      rintro e w1 ⟨rfl, rfl⟩
      go_wp2
      go_ret2
      exact ST.out
    · have d1 : (pid == 1) = false := by simpa using hone
      obtain ⟨b', rfl, -, -, -, x2, -⟩ := NA.out.at_ hpl hpx
      have hqm : (q : Int) < (m : Int) := by have := HM.out; omega
      by_cases h3 : x.2.2.1 = 3
      · have ST := Lib.hid (STAY.out 9 (by unfold exitE; rw [hp]; simp only; rw [if_neg hone, if_pos h3]) (by decide))
        rw [h3] at x2
        clear STAY hp hkk hpl hpx hq h3
        go_enter Try.func24, Try.ntmps24
        go_wp2_with fail
        refine AT.out.mono ?_
        rintro e w1 ⟨rfl, rfl⟩
        go_wp2
        go_ret2
        exact ST.out
      · have d3 : (x.2.2.1 == 3) = false := by simpa using h3
        have e0 : exitE L pid = 0 := by unfold exitE; rw [hp]; simp only; rw [if_neg hone, if_neg h3]
        have eL : exitL n L pid cd = serveL n (exitM L pid cd) := by unfold exitL; rw [if_pos e0]
        have eR : exitR n L pid cd = serveR n (exitM L pid cd) := by unfold exitR; rw [if_pos e0]
        have DN : Hid (∀ e w', RReap base w rb n 0 (serveL n (exitM L pid cd)) (serveR n (exitM L pid cd)) e w' → RReap base w rb n (exitE L pid) (exitL n L pid cd) (exitR n L pid cd) e w') := Lib.hid fun e w' hh => by rw [e0, eL, eR]; exact hh
        obtain ⟨-, h0⟩ | ⟨g0, cp, heq, hnc, hcm, hg0, hcs⟩ := row_allY H.out.row
        · have := HM.out; omega
        obtain ⟨ea, ec⟩ : b' = g0 ∧ c = cp := by injection heq with e1 e2 e3; injection e1 with e1; injection e1 with e1; exact ⟨e1, e3⟩
        subst ea ec
        have CS := Lib.hid hcs
        have hnc2 : m ≤ c := by have := HM.out; omega
        have L1 : Hid ((prsV L).length = m * 4) := Lib.hid (by rw [prsV_length, HM.out])
        have OM := Lib.hid (World.ownsRow_lit (base := w.heap.size) (e := 42) (size := 4) w #[] 0 (Nat.le_refl _) (by decide) rfl)
        have AM : Hid (Below w.heap.size w (w.alloc (.cells #[] 42))) := Lib.hid ((Below.refl _ _).alloc (Nat.le_refl _) _)
        have RB : Hid (∀ V, Below w.heap.size w V → V.cell? ⟨rb, 1, none⟩ = some (.slice (some ⟨b', 0, none⟩) m c) ∧ V.frozen? ⟨rb, 1, none⟩ = false) := Lib.hid fun V hV => ⟨(H.out.below hV).cells.2.1, (H.out.below hV).cells.2.2.2⟩
        obtain ⟨s2, hs2⟩ : ∃ s, x.2.2.1 = s := ⟨_, rfl⟩
        obtain ⟨s3, hs3⟩ : ∃ s, x.2.2.2 = s := ⟨_, rfl⟩
        have C2 : Hid ((prsV L)[q * 4 + 2]? = some (.int .i64 s2) ∧ (prsV L)[q * 4 + 3]? = some (.int .u32 s3)) := Lib.hid (by have := (prsV_get L q hpl).2.2; rw [hpx, hs2, hs3] at this; exact this)
        have SET := Lib.hid (zom_rows (c := cd) HG.out.up hp hq)
        have FR : Hid (∀ w5 g5 c5, w5.ownsRow w.heap.size 42 4 (.slice (some ⟨g5, 0, none⟩) m c5) m (prsV L) → Below w.heap.size w w5 → RTab w.heap.size (w5.setCell ⟨rb, 1, none⟩ (.slice (some ⟨g5, 0, none⟩) m c5)) rb n L (.slice (some ⟨g5, 0, none⟩) m c5)) := Lib.hid fun w5 g5 c5 h1 h2 => H.out.fresh h2 (by rw [← HM.out]; exact h1)
        have hrb : rb < w.heap.size := lt_of_block H.out.box
        obtain ⟨Z, hZ⟩ : ∃ Z, Z = L.map (zomS pid cd) := ⟨_, rfl⟩
        have ZL : Hid (m = Z.length) := Lib.hid (by rw [hZ, List.length_map]; exact HM.out)
        have ZM : Hid (rePre pid m Z = exitM L pid cd) := Lib.hid (by rw [ZL.out, rePre_all, hZ]; rfl)
        rw [← hZ] at SET
        rw [hs2] at x2 d3
        clear STAY hp hkk hpx hpl hq h3 e0 eL eR hcs hnc heq hZ hs2 hs3
        go_enter Try.func24, Try.ntmps24
        go_wp2_with fail
        refine AT.out.mono ?_
        rintro e w1 ⟨rfl, rfl⟩
        go_wp2_with (first
          | (at_builtin; refine wpList_append_own _ rfl (.tmp 30) (.tmp 34) 28 rfl w.heap.size 42 ii (.agg #[.int .i64 0, .int .i64 0, .int .i64 0, .int .u32 0]) 4 32 Try.underlying28 hi hi0 hi1 hi2 rfl (by decide) _ 0 [] rfl OM.out ⟨b', 0, none⟩ m c (prsV L) rfl L1.out (CS.out _ AM.out) prsV_one' (by unfold maxLen; omega) (by omega) AM.out.size ?_; intro v5 w5 ho hg _; rw [Nat.zero_add, List.nil_append] at ho; have B5 := Lib.hid (AM.out.grown hg AM.out.size (fun k hk => (OM.out.lt k hk).1)); obtain ⟨-, hz⟩ | ⟨g5, c5, rfl, hn5, hc5, hg5, hcs5⟩ := row_allY ho; exact absurd hz (by omega); have O5 := Lib.hid ho; have x5 := (hcs5 w5 (Below.refl _ _)) _ _ C2.out.1; rw [Addr.add_mid, Nat.zero_add] at x5; have x6 := (hcs5 w5 (Below.refl _ _)) _ _ C2.out.2; rw [Addr.add_mid, Nat.zero_add] at x6; have z5 := O5.out.frozenAt (q * 4 + 2); have z6 := O5.out.frozenAt (q * 4 + 3); obtain ⟨y5, u5⟩ := RB.out w5 B5.out; have T6 := Lib.hid (FR.out w5 g5 c5 O5.out B5.out); have hne5 : g5 ≠ rb := (fun e => T6.out.ne (by rw [← e]; rfl)); have hne6 : rb ≠ g5 := hne5.symm; have T7 := Lib.hid (T6.out.setRow (L' := L.map (setSt pid 3)) (q := q * 4 + 2) (u := .int .i64 3) HM.out (by simp) SET.out.1); have T8 := Lib.hid (T7.out.setRow (L' := Z) (q := q * 4 + 3) (u := .int .u32 cd) (by rw [List.length_map]; exact HM.out) (by rw [← ZL.out, List.length_map]; exact HM.out) SET.out.2); clear ho hg hcs5))
        have N8 := Lib.hid ((Only.below (B := fun k => k = rb ∨ w.heap.size ≤ k) B5.out).trans ((Only.grown (grownBy_setCell w5 rb 1 (.slice (some ⟨g5, 0, none⟩) m c5)) (Or.inl rfl)).trans ((Only.grown (grownBy_setCell _ g5 (q * 4 + 2) (.int .i64 3)) (Or.inr (O5.out.lt g5 rfl).1)).trans (Only.grown (grownBy_setCell _ g5 (q * 4 + 3) (.int .u32 cd)) (Or.inr (O5.out.lt g5 rfl).1)))))
        have G5 := Lib.hid (O5.out.lt g5 rfl).1
        go_loopw [9] (fun i wr => ∃ (j : Nat), i = .int .i64 (j : Int) ∧ j ≤ m ∧ RTab w.heap.size wr rb n (rePre pid j Z) (.slice (some ⟨g5, 0, none⟩) m c5) ∧ Only w wr (fun k => k = rb ∨ w.heap.size ≤ k)) (fun i _ => m - (intOf i).toNat)
        case atStart => exact ⟨0, rfl, Nat.zero_le _, T8.out, N8.out⟩
        case round =>
          obtain ⟨j, rfl, hj, ht, hon⟩ := hrel
          clear x5 x6 z5 z6 y5 u5 c0 c1 f0 f1 x2 T6 T7 T8 N8
          have TW := Lib.hid ht
          have NW := Lib.hid hon
          obtain ⟨-, k1, -, k2⟩ := ht.cells
          clear ht hon
          by_cases hlt : j < m
          · have hjl : j < Z.length := by rw [← ZL.out]; exact hlt
            have hgt := rePre_get (pid := pid) hjl
            have hst := rePre_step (pid := pid) hjl
            have hsk := rePre_skip (pid := pid) hjl
            obtain ⟨⟨y, y1, y2, y3⟩, hy⟩ : ∃ y, Z.getD j default = y := ⟨_, rfl⟩
            rw [hy] at hgt hst hsk
            have hjr : j < (rePre pid j Z).length := by rw [rePre_len]; exact hjl
            obtain ⟨b2, hb2, -, -, z1, -, -⟩ := (PrsAt.of_row TW.out.row).at_ hjr hgt
            obtain rfl : g5 = b2 := by simpa using hb2
            simp only at z1 hsk
            by_cases he : y1 = pid
            · have d0 : (y1 == pid) = true := by simpa using he
              have TN : Hid (RTab w.heap.size (wr.setCell ⟨g5, j * 4 + 1, none⟩ (.int .i64 1)) rb n (rePre pid (j + 1) Z) (.slice (some ⟨g5, 0, none⟩) m c5)) := Lib.hid (TW.out.setRow (by rw [rePre_len]; exact ZL.out) (by rw [rePre_len, rePre_len]) (by
                rw [hst]
                unfold reUp
                rw [if_pos he]
                exact prsV_set1 _ j (y, y1, y2, y3) 1 hjr hgt))
              have R4 := TW.out.row
              rw [rePre_len, ← ZL.out] at R4
              have z4 := R4.frozenAt (j * 4 + 1)
              clear hst hsk hgt hy hjr hb2 R4
              go_wp2_with fail
              go_roundw
              case rel => exact ⟨j + 1, by go_num, by omega, TN.out, NW.out.trans (Only.grown (grownBy_setCell _ _ _ _) (Or.inr G5.out))⟩
              case measure => simp [intOf]; omega
            · have d0 : (y1 == pid) = false := by simpa using he
              have TN : Hid (RTab w.heap.size wr rb n (rePre pid (j + 1) Z) (.slice (some ⟨g5, 0, none⟩) m c5)) := Lib.hid (by rw [hsk he]; exact TW.out)
              clear hst hsk hgt hy hjr hb2
              go_wp2_with fail
              go_roundw
              case rel => exact ⟨j + 1, by go_num, by omega, TN.out, NW.out⟩
              case measure => simp [intOf]; omega
          · obtain rfl : j = m := by omega
            have TE := TW.out
            rw [ZM.out] at TE
            have TS := Lib.hid TE
            clear hlt TE
            go_wp2_with (go_at_call 32; refine (rserveY TS.out (HG.out.exitM pid HCD.out)).mono ?_; rintro e w8 hs; have S8 := Lib.hid hs; obtain ⟨u8, rfl, -, -, -⟩ := hs)
            go_ret2
            exact DN.out _ _ (RReap.of H.out.low NW.out S8.out rfl)
end Go.Proofs.Ytbmiodkdoacbeaa
