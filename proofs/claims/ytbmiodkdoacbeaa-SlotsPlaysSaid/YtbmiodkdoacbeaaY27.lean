/- The contract of the document's Wait of layer 13. Condition: the table is a law's own. -/
import Derived.Test.YtbmiodkdoacbeaaY26
namespace Go.Proofs.Ytbmiodkdoacbeaa
open Go.RowKit Go.Maps
set_option maxRecDepth 100000

theorem RTab.fresh {base : Nat} {w w' : World} {rb : Nat} {n : Int} {L L' : List Nd} {v u : Value} (h : RTab base w rb n L v) (hb : Below w.heap.size w w') (hu : w'.ownsRow w.heap.size 42 4 u L'.length (prsV L')) : RTab w.heap.size (w'.setCell ⟨rb, 1, none⟩ u) rb n L' u :=
  ⟨heap_setCell_same _ _ 1 _ _ _ (below_block hb h.box), ownsRow_only (B := fun k => k = rb) hu (Only.grown (grownBy_setCell _ _ _ _) rfl) (fun g hg e => by
    have := (hu.lt g hg).1
    have := lt_of_block h.box
    omega), by simpa using hb.size⟩
/-- What the document's Exit and Wait answer, and leave. -/
def RReap (base : Nat) (w : World) (rb : Nat) (n : Int) (er : Int) (L' : List Nd) (R : List Rp) (e : Ending) (w' : World) : Prop :=
  (∃ u, e = .returned (.tuple #[u, .int .i64 er]) ∧ w'.ownsRow w.heap.size 58 3 u R.length (rpV R)) ∧ RTo base w w' rb n L'
theorem RReap.none_ {base : Nat} {w w' : World} {rb : Nat} {n : Int} {L : List Nd} {v : Value} (h : RTab base w rb n L v) (er : Int) (hb : Below w.heap.size w w') : RReap base w rb n er L [] (.returned (.tuple #[.slice none 0 0, .int .i64 er])) w' :=
  ⟨⟨_, rfl, World.ownsRow_nil _ _ _ _⟩, RTo.stay h hb⟩
theorem RReap.of {base : Nat} {w w7 w' : World} {rb : Nat} {n : Int} {M : List Nd} {e : Ending} {u : Value} (hl : base ≤ w.heap.size) (h7 : Only w w7 (fun k => k = rb ∨ w.heap.size ≤ k)) (h : SrvPost w.heap.size w7 rb n M e w') (he : e = .returned u) : RReap base w rb n 0 (serveL n M) (serveR n M) (.returned (.tuple #[u, .int .i64 0])) w' := by
  obtain ⟨u', hu, ⟨v, hv⟩, ho, hon⟩ := h
  obtain rfl : u = u' := by rw [he] at hu; injection hu
  have hall := h7.trans hon
  refine ⟨⟨_, rfl, own_base ho h7.size⟩, ⟨v, ⟨hv.box, own_base hv.row hl, Nat.le_trans hl hv.low⟩, Or.inr fun g hg => (hv.row.lt g hg).1⟩, ⟨hall.os, hall.tape, hall.output, hall.size, fun k hk hB => hall.block k hk ?_⟩⟩
  rintro (e | e)
  · exact hB e
  · omega
theorem hasCh_snoc {L : List Nd} {pid : Int} {j : Nat} (hj : j < L.length) : hasCh pid (L.take (j + 1)) = (hasCh pid (L.take j) || decide ((L.getD j default).2.1 = pid)) := by
  unfold hasCh
  rw [take_snoc hj, List.any_append]
  simp
set_option maxHeartbeats 16000000 in
theorem rwaitY {base : Nat} {w : World} {rb : Nat} {n : Int} {L : List Nd} {v : Value} (h : RTab base w rb n L v) (hg : GoodY n L) (pid : Int) :
    Calls Try.prog 25 #[.pointer (some ⟨rb, 0, none⟩), .int .i64 pid] w (RReap base w rb n (waitE L pid) (waitL n L pid) (waitR n L pid)) := by
  obtain ⟨ii, hi, hi0, hi1, hi2⟩ := info_parts procInfo
  have hl8 : L.length ≤ 8 := by have := hg.len; have := hg.most; omega
  have HG := Lib.hid hg
  have NA := Lib.hid (PrsAt.of_row h.row)
  obtain ⟨kk, hkk⟩ : ∃ kk, atIY L pid = kk := ⟨_, rfl⟩
  have AT := Lib.hid (ratY L v pid w (by omega) NA.out hkk)
  obtain ⟨a, c, rfl⟩ := NA.out.form
  have H := Lib.hid h
  obtain ⟨m, hm⟩ : ∃ m, m = L.length := ⟨_, rfl⟩
  have HM := Lib.hid hm
  obtain ⟨c0, c1, f0, f1⟩ := h.cells
  rw [← hm] at NA AT c1 H hl8
  have STAY : Hid (∀ er, waitE L pid = er → er ≠ 0 → RReap base w rb n (waitE L pid) (waitL n L pid) (waitR n L pid) (.returned (.tuple #[.slice none 0 0, .int .i64 er])) w) := Lib.hid fun er he hne => by
    unfold waitL waitR
    rw [he, if_neg hne, if_neg hne]
    exact RReap.none_ H.out er (Below.refl _ _)
  clear h hg hm
  go_enter Try.func25, Try.ntmps25
  go_wp2_with fail
  refine AT.out.mono ?_
  rintro e w1 ⟨rfl, rfl⟩
  go_wp2_with fail
  go_loopw [7, 8] (fun o i wr => ∃ (j : Nat), i = .int .i64 (j : Int) ∧ o = .bool (hasCh pid (L.take j)) ∧ j ≤ m ∧ w = wr) (fun _ i _ => m - (intOf i).toNat)
  case atStart => exact ⟨0, rfl, rfl, Nat.zero_le _, rfl⟩
  case round =>
    obtain ⟨j, rfl, rfl, hj, rfl⟩ := hrel
    by_cases hlt : j < m
    · have hjl : j < L.length := by rw [← HM.out]; exact hlt
      have hsn := hasCh_snoc (pid := pid) hjl
      obtain ⟨⟨y, y1, y2, y3⟩, hy⟩ : ∃ y, L.getD j default = y := ⟨_, rfl⟩
      obtain ⟨b, rfl, hbl, -, z1, -, -⟩ := NA.out.at_ hjl hy
      rw [hy] at hsn
      simp only at z1 hsn
      have HS := Lib.hid hsn
      clear hsn hy
      cases hb : hasCh pid (L.take j) with
      | true =>
        rw [hb] at HS
        go_wp2_with fail
        go_roundw
        case rel => exact ⟨j + 1, by go_num, by rw [HS.out]; rfl, by omega, by trivial⟩
        case measure => simp [intOf]; omega
      | false =>
        rw [hb] at HS
        by_cases he : y1 = pid
        · have d0 : (y1 == pid) = true := by simpa using he
          have HS2 := Lib.hid (HS.out.trans (by simpa using he : (false || decide (y1 = pid)) = true))
          go_wp2_with fail
          go_roundw
          case rel => exact ⟨j + 1, by go_num, by rw [HS2.out], by omega, by trivial⟩
          case measure => simp [intOf]; omega
        · have d0 : (y1 == pid) = false := by simpa using he
          have HS2 := Lib.hid (HS.out.trans (by simpa using he : (false || decide (y1 = pid)) = false))
          go_wp2_with fail
          go_roundw
          case rel => exact ⟨j + 1, by go_num, by rw [HS2.out], by omega, by trivial⟩
          case measure => simp [intOf]; omega
    · obtain rfl : j = m := by omega
      have hta : L.take j = L := by rw [HM.out, List.take_length]
      rw [hta]
      clear hlt hta
      cases hp : atN pid L with
      | none =>
        obtain rfl : kk = -1 := by rw [← hkk, atIY_none hp]
        have ST := Lib.hid (STAY.out 4 (by unfold waitE; rw [hp]) (by decide))
        clear STAY hp
        go_wp2
        go_ret2
        exact ST.out
      | some x =>
        obtain ⟨q, hq⟩ : ∃ q, posN pid L = q := ⟨_, rfl⟩
        obtain rfl : kk = (q : Int) := by rw [← hkk, atIY_some hp, hq]
        obtain ⟨hpl, hpx⟩ := pos_at hp
        rw [hq] at hpl hpx
        cases hc : hasCh pid L with
        | false =>
          have ST := Lib.hid (STAY.out 4 (by unfold waitE; rw [hp]; simp only; rw [hc]; rfl) (by decide))
          clear STAY hp hpx hpl hc hq
          go_wp2
          go_ret2
          exact ST.out
        | true =>
          obtain ⟨b', rfl, -, -, -, x2, -⟩ := NA.out.at_ hpl hpx
          have hqm : (q : Int) < (j : Int) := by have := HM.out; omega
          by_cases h1 : x.2.2.1 = 1
          · have e0 : waitE L pid = 0 := by unfold waitE; rw [hp]; simp only; rw [if_pos hc, if_pos h1]
            have eL : waitL n L pid = serveL n (L.map (setSt pid 2)) := by unfold waitL; rw [if_pos e0]
            have eR : waitR n L pid = serveR n (L.map (setSt pid 2)) := by unfold waitR; rw [if_pos e0]
            have DN : Hid (∀ e w', RReap base w rb n 0 (serveL n (L.map (setSt pid 2))) (serveR n (L.map (setSt pid 2))) e w' → RReap base w rb n (waitE L pid) (waitL n L pid) (waitR n L pid) e w') := Lib.hid fun e w' hh => by rw [e0, eL, eR]; exact hh
            obtain ⟨-, h0⟩ | ⟨g0, cp, heq, hnc, hcm, hg0, hcs⟩ := row_allY H.out.row
            · have := HM.out; omega
            obtain ⟨ea, ec⟩ : b' = g0 ∧ c = cp := by injection heq with e1 e2 e3; injection e1 with e1; injection e1 with e1; exact ⟨e1, e3⟩
            subst ea ec
            have CS := Lib.hid hcs
            have hnc2 : j ≤ c := by have := HM.out; omega
            have L1 : Hid ((prsV L).length = j * 4) := Lib.hid (by rw [prsV_length, HM.out])
            have OM := Lib.hid (World.ownsRow_lit (base := w.heap.size) (e := 42) (size := 4) w #[] 0 (Nat.le_refl _) (by decide) rfl)
            have AM : Hid (Below w.heap.size w (w.alloc (.cells #[] 42))) := Lib.hid ((Below.refl _ _).alloc (Nat.le_refl _) _)
            have RB : Hid (∀ V, Below w.heap.size w V → V.cell? ⟨rb, 1, none⟩ = some (.slice (some ⟨b', 0, none⟩) j c) ∧ V.frozen? ⟨rb, 1, none⟩ = false) := Lib.hid fun V hV => ⟨(H.out.below hV).cells.2.1, (H.out.below hV).cells.2.2.2⟩
            have C2 : Hid ((prsV L)[q * 4 + 2]? = some (.int .i64 1)) := Lib.hid (by have := (prsV_get L q hpl).2.2.1; rw [hpx, h1] at this; exact this)
            have SET : Hid (prsV (L.map (setSt pid 2)) = (prsV L).set (q * 4 + 2) (.int .i64 2)) := Lib.hid (by rw [map_setSt _ _ HG.out.up hp, hq]; exact prsV_set2 L q x 2 hpl hpx)
            have FR : Hid (∀ w5 g5 c5, w5.ownsRow w.heap.size 42 4 (.slice (some ⟨g5, 0, none⟩) j c5) j (prsV L) → Below w.heap.size w w5 → RTab w.heap.size (w5.setCell ⟨rb, 1, none⟩ (.slice (some ⟨g5, 0, none⟩) j c5)) rb n L (.slice (some ⟨g5, 0, none⟩) j c5)) := Lib.hid fun w5 g5 c5 h1 h2 => H.out.fresh h2 (by rw [← HM.out]; exact h1)
            have hrb : rb < w.heap.size := lt_of_block H.out.box
            rw [h1] at x2
            clear STAY hp hpx hpl hc hq h1 e0 eL eR hcs hnc heq
            go_wp2_with (first
              | (at_builtin; refine wpList_append_own _ rfl (.tmp 53) (.tmp 57) 28 rfl w.heap.size 42 ii (.agg #[.int .i64 0, .int .i64 0, .int .i64 0, .int .u32 0]) 4 32 Try.underlying28 hi hi0 hi1 hi2 rfl (by decide) _ 0 [] rfl OM.out ⟨b', 0, none⟩ j c (prsV L) rfl L1.out (CS.out _ AM.out) prsV_one' (by unfold maxLen; omega) (by omega) AM.out.size ?_; intro v5 w5 ho hg _; rw [Nat.zero_add, List.nil_append] at ho; have B5 := Lib.hid (AM.out.grown hg AM.out.size (fun k hk => (OM.out.lt k hk).1)); obtain ⟨-, hz⟩ | ⟨g5, c5, rfl, hn5, hc5, hg5, hcs5⟩ := row_allY ho; exact absurd hz (by omega); have O5 := Lib.hid ho; have x5 := (hcs5 w5 (Below.refl _ _)) _ _ C2.out; rw [Addr.add_mid, Nat.zero_add] at x5; have z5 := O5.out.frozenAt (q * 4 + 2); obtain ⟨y5, u5⟩ := RB.out w5 B5.out; have T6 := Lib.hid (FR.out w5 g5 c5 O5.out B5.out); have hne5 : g5 ≠ rb := (fun e => T6.out.ne (by rw [← e]; rfl)); have hne6 : rb ≠ g5 := hne5.symm; have T7 := Lib.hid (T6.out.setRow (L' := L.map (setSt pid 2)) (q := q * 4 + 2) (u := .int .i64 2) HM.out (by simp) SET.out); clear ho hg hcs5)
              | (go_at_call 32; refine (rserveY T7.out (HG.out.setSt pid 2 (by decide))).mono ?_; rintro e w8 hs; have S8 := Lib.hid hs; obtain ⟨u8, rfl, -, -, -⟩ := hs))
            go_ret2
            exact DN.out _ _ (RReap.of H.out.low ((Only.below B5.out).trans ((Only.grown (grownBy_setCell _ _ _ _) (Or.inl rfl)).trans (Only.grown (grownBy_setCell _ _ _ _) (Or.inr (O5.out.lt g5 rfl).1)))) S8.out rfl)
          · have d1 : (x.2.2.1 != 1) = true := by simpa using h1
            have ST := Lib.hid (STAY.out 9 (by unfold waitE; rw [hp]; simp only; rw [if_pos hc, if_neg h1]) (by decide))
            clear STAY hp hpx hpl hc hq h1
            generalize x.2.2.1 = s at *
            go_wp2
            go_ret2
            exact ST.out
end Go.Proofs.Ytbmiodkdoacbeaa
