/- The contract of the document's Charge of layer 11. Condition: the slice is the call's own. -/
import Derived.Test.YtedeifejokcleaaU9
namespace Go.Proofs.Ytedeifejokcleaa
open Go.RowKit Go.Maps
set_option maxRecDepth 100000

/-- A row, whole: its cells, whatever comes. -/
theorem row_all {w : World} {base q n : Nat} {e : TypeId} {v : Value} {xs : List Value} (h : w.ownsRow base e q v n xs) : (v = .slice none 0 0 ∧ n = 0) ∨ ∃ b c, v = .slice (some ⟨b, 0, none⟩) n c ∧ n ≤ c ∧ c ≤ maxLen ∧ b < w.heap.size ∧
    (∀ V, Below w.heap.size w V → ∀ j u, xs[j]? = some u → V.cell? ((⟨b, 0, none⟩ : Addr).add j) = some u) := by
  have hc := h
  rcases h.2 with ⟨h1, h0⟩ | ⟨g, cap, cur, rfl, hb, hgg, hnc, hcm, _⟩
  · exact Or.inl ⟨h1, h0⟩
  · refine Or.inr ⟨g, cap, rfl, hnc, hcm, lt_of_block hgg, fun V hV j u hu => ?_⟩
    have := hc.cells (g := g) rfl j u hu
    rw [Addr.add_mid] at this ⊢
    rw [hV.cell (p := ⟨g, 0 + j, none⟩) (lt_of_block hgg)]
    exact this
/-- What the document's calls leave: a list of their own, or the one that was. -/
def RPost (base : Nat) (w : World) (v : Value) (L' : List Nd) (er : Int) (e : Ending) (w' : World) : Prop := ∃ v', e = .returned (.tuple #[v', .int .i64 er]) ∧ w'.ownsRow base 49 4 v' L'.length (ndsV L') ∧ Below w.heap.size w w' ∧ ∀ g, v'.ownBlock = some g → v.ownBlock = some g ∨ w.heap.size ≤ g
theorem used_row {L : List Nd} {id d : Int} {x : Nd} (h : L.Pairwise (fun a b => a.1 < b.1)) (hx : atN id L = some x) {k : Nat} (hk : posN id L = k) : ndsV (L.map (setU id d)) = (ndsV L).set (k * 4 + 3) (.int .i64 (x.2.2.2 + d)) := by
  obtain ⟨h1, h2⟩ := pos_at hx
  rw [hk] at h1 h2
  rw [map_setU id d h hx, hk, ndsV_set L k x _ h1 h2]
theorem own_used {w : World} {base n k g cap : Nat} {L : List Nd} {id d : Int} {x : Nd} (ho : w.ownsRow base 49 4 (.slice (some ⟨g, 0, none⟩) n cap) n (ndsV L)) (hn : n = L.length) (h : L.Pairwise (fun a b => a.1 < b.1)) (hx : atN id L = some x) (hk : posN id L = k) :
    (w.setCell ⟨g, k * 4 + 3, none⟩ (.int .i64 (x.2.2.2 + d))).ownsRow base 49 4 (.slice (some ⟨g, 0, none⟩) n cap) (L.map (setU id d)).length (ndsV (L.map (setU id d))) := by
  rw [used_row h hx hk, List.length_map, ← hn]
  exact own_set ho _
set_option maxHeartbeats 2000000 in
theorem rcharge11 {base : Nat} {w : World} {v : Value} {L : List Nd} (hg : Good L) (ho : w.ownsRow base 49 4 v L.length (ndsV L)) (hbs : base ≤ w.heap.size) (id n : Int) {er : Int} (he : chargeE L id n = er) :
    Calls Try.prog 26 #[v, .int .i64 id, .int .i64 n] w (RPost base w v (chargeL L id n) er) := by
  obtain ⟨ii, hi, hi0, hi1, hi2⟩ := info_parts nodeInfo
  have HO := Lib.hid ho
  have HG := Lib.hid hg
  have HBS := Lib.hid hbs
  have HE := Lib.hid he
  have stay : ∀ w', er ≠ 0 → Below w.heap.size w w' → RPost base w v (chargeL L id n) er (.returned (.tuple #[v, .int .i64 er])) w' := fun w' hne hb => by
    unfold chargeL
    rw [if_neg (by rw [he]; exact hne)]
    exact ⟨v, rfl, own_step ho hb, hb, fun _ h => Or.inl h⟩
  have STAY := Lib.hid stay
  clear stay hg ho hbs he
  cases hf : fitB id n with
  | false =>
    obtain rfl : er = 2 := by rw [← HE.out]; unfold chargeE; rw [if_neg (by rw [hf]; decide)]
    have FT := Lib.hid (fits11 id n w hf)
    clear hf
    go_enter Try.func26, Try.ntmps26
    go_wp2_with fail
    refine FT.out.mono ?_
    rintro e w1 ⟨rfl, rfl⟩
    go_wp2
    go_ret2
    exact STAY.out _ (by decide) (Below.refl _ _)
  | true =>
    have FT := Lib.hid (fits11 id n w hf)
    have HF := Lib.hid hf
    have hfn := (fitB_iff.1 hf).2
    clear hf
    cases ha : atN id L with
    | none =>
      obtain rfl : er = 4 := by rw [← HE.out]; unfold chargeE; rw [if_pos HF.out, if_pos ha]
      have AT := Lib.hid (rat11 L v id w (Nat.le_trans HG.out.len (by decide)) (NdsAt.of_row HO.out) (atI_none ha))
      clear ha
      go_enter Try.func26, Try.ntmps26
      go_wp2_with fail
      refine FT.out.mono ?_
      rintro e w1 ⟨rfl, rfl⟩
      go_wp2_with fail
      refine AT.out.mono ?_
      rintro e w1 ⟨rfl, rfl⟩
      go_wp2
      go_ret2
      exact STAY.out _ (by decide) (Below.refl _ _)
    | some x =>
      obtain ⟨hpl, hpx⟩ := pos_at ha
      obtain ⟨k, hk⟩ : ∃ k, posN id L = k := ⟨_, rfl⟩
      have AT : Hid (∀ V, Below w.heap.size w V → Calls Try.prog 21 #[v, .int .i64 id] V fun e w' => e = .returned (.int .i64 (k : Int)) ∧ V = w') := Lib.hid fun V hV => rat11 L v id V (Nat.le_trans HG.out.len (by decide)) ((NdsAt.of_row HO.out).below hV) (by rw [atI_some ha, hk])
      obtain ⟨d, hd⟩ : ∃ d, leftL L id = d := ⟨_, rfl⟩
      have LF := Lib.hid (rleft11 L v id w HG.out (NdsAt.of_row HO.out) hd)
      have hdd : decide ((k : Int) < 0) = false := decide_eq_false (by omega)
      by_cases hlt : d < n
      · obtain rfl : er = 3 := by rw [← HE.out]; unfold chargeE; rw [if_pos HF.out, if_neg (by rw [ha]; simp), if_pos (by rw [hd]; exact hlt)]
        clear ha hd hpl hpx hk
        go_enter Try.func26, Try.ntmps26
        go_wp2_with fail
        refine FT.out.mono ?_
        rintro e w1 ⟨rfl, rfl⟩
        go_wp2_with fail
        refine (AT.out _ (Below.refl _ _)).mono ?_
        rintro e w1 ⟨rfl, rfl⟩
        go_wp2_with fail
        refine LF.out.mono ?_
        rintro e w2 ⟨rfl, hb⟩
        have B2 := Lib.hid hb
        clear hb
        go_wp2
        go_ret2
        exact STAY.out _ (by decide) B2.out
      · have e0 : chargeE L id n = 0 := by unfold chargeE; rw [if_pos HF.out, if_neg (by rw [ha]; simp), if_neg (by rw [hd]; exact hlt)]
        obtain rfl : er = 0 := by rw [← HE.out, e0]
        have hcl : chargeL L id n = L.map (setU id n) := by unfold chargeL; rw [if_pos e0]
        rw [hcl]
        have HA := Lib.hid ha
        have HK := Lib.hid hk
        have hok := HG.out.ok x (atN_some ha).1
        obtain ⟨⟨x0, x1, x2, x3⟩, hx⟩ : ∃ y, x = y := ⟨_, rfl⟩
        subst hx
        dsimp only [okN] at hok
        have hw : IntKind.i64.wrap (x3 + n) = x3 + n := IntWalk.i64_in _ (by omega)
        obtain ⟨m, hm⟩ : ∃ m, m = L.length := ⟨_, rfl⟩
        have hm8 : m ≤ 8 := by rw [hm]; exact HG.out.len
        have HM := Lib.hid hm
        rw [hk] at hpl hpx
        have hkm : k < m := by omega
        obtain ⟨-, h0⟩ | ⟨g0, c0, rfl, hnc, hcm, hg0, hcs⟩ := row_all HO.out
        · omega
        have CS := Lib.hid hcs
        have C3 : Hid ((ndsV L)[k * 4 + 3]? = some (.int .i64 x3)) := Lib.hid (by have := (ndsV_get L k hpl).2.2.2; rw [hpx] at this; exact this)
        rw [← hm] at hnc
        have hml : (L.length : Int) = (m : Int) := by rw [hm]
        rw [← hm] at LF AT ⊢
        clear ha hd hpl hpx hk e0 hcl hcs hm hml
        go_enter Try.func26, Try.ntmps26
        go_wp2_with fail
        refine FT.out.mono ?_
        rintro e w1 ⟨rfl, rfl⟩
        go_wp2_with fail
        refine (AT.out _ (Below.refl _ _)).mono ?_
        rintro e w1 ⟨rfl, rfl⟩
        go_wp2_with fail
        refine LF.out.mono ?_
        rintro e w2 ⟨rfl, hb⟩
        have B2 := Lib.hid hb
        clear hb
        have OM := Lib.hid (World.ownsRow_made (base := w.heap.size) (e := 49) (size := 4) w2 #[] 0 B2.out.size (by decide) rfl)
        have AM : Hid (Below w.heap.size w (w2.alloc (.cells #[] 49))) := Lib.hid (B2.out.alloc B2.out.size _)
        go_wp2_with (first | (at_builtin; refine wpList_append_own _ rfl (.tmp 25) (.tmp 26) 28 rfl w.heap.size 49 ii (.agg #[.int .i64 0, .int .i64 0, .int .i64 0, .int .i64 0]) 4 32 Try.underlying28 hi hi0 hi1 hi2 rfl (by decide) _ 0 [] rfl OM.out ⟨g0, 0, none⟩ m c0 (ndsV L) rfl (by rw [ndsV_length, HM.out]) (CS.out _ AM.out) ndsV_one' (by unfold maxLen; omega) (by omega) AM.out.size ?_; intro v5 w5 ho hg _; rw [Nat.zero_add, List.nil_append] at ho; have B5 := Lib.hid (AM.out.grown hg AM.out.size (fun k hk => (OM.out.lt k hk).1)); obtain ⟨-, hz⟩ | ⟨g5, c5, rfl, hn5, hc5, hg5, hcs5⟩ := row_all ho; exact absurd hz (by omega); have O5 := Lib.hid ho; have f5 := (hcs5 w5 (Below.refl _ _)) _ _ C3.out; rw [Addr.add_mid, Nat.zero_add] at f5; have f6 := O5.out.frozenAt (k * 4 + 3); have i5 : (k : Int) < (m : Int) := (by omega); clear ho hg hcs5) | (go_at_call 21; refine (AT.out _ B5.out).mono ?_; rintro e w9 ⟨rfl, rfl⟩))
        go_ret2
        exact ⟨_, rfl, own_base (own_used O5.out HM.out HG.out.up HA.out HK.out) HBS.out, B5.out.setCell (p := ⟨g5, _, none⟩) (O5.out.lt g5 rfl).1 _, fun g hg => Or.inr (O5.out.lt g hg).1⟩
end Go.Proofs.Ytedeifejokcleaa
