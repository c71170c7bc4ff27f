/- Texts of mine, joined: U9 U10 U12 U13 U14 U11 U15 U18 U19 U21. What each says and under which conditions stands at its head, below. -/
import Derived.Test.YtkenipanpimolaaGreatDoorHA
/- Containers as slices; the contracts of the document's fits, At, Left, Same, New of layer 11. Condition: the slices lie in memory. -/
namespace Go.Proofs.YtkenipanpimolaaGreatDoor
open Go.RowKit Go.Maps
set_option maxRecDepth 100000

/-- A slice of containers. -/
def NdsAt (w : World) (v : Value) (L : List Nd) : Prop := ∃ a c, v = .slice a L.length c ∧ (L = [] ∨ ∃ b, a = some ⟨b, 0, none⟩ ∧ b < w.heap.size ∧ ∀ i, i < L.length →
  w.cell? ⟨b, i * 4, none⟩ = some (.int .i64 (L.getD i default).1) ∧ w.cell? ⟨b, i * 4 + 1, none⟩ = some (.int .i64 (L.getD i default).2.1) ∧ w.cell? ⟨b, i * 4 + 2, none⟩ = some (.int .i64 (L.getD i default).2.2.1) ∧ w.cell? ⟨b, i * 4 + 3, none⟩ = some (.int .i64 (L.getD i default).2.2.2))
theorem NdsAt.below {w w' : World} {v : Value} {L : List Nd} (h : NdsAt w v L) (hb : Below w.heap.size w w') : NdsAt w' v L := by
  obtain ⟨a, c, rfl, h⟩ := h
  refine ⟨a, c, rfl, h.imp id fun ⟨b, e, hlt, hc⟩ => ⟨b, e, Nat.lt_of_lt_of_le hlt hb.size, fun i hi => ?_⟩⟩
  obtain ⟨c0, c1, c2, c3⟩ := hc i hi
  have k : ∀ q, w'.cell? ⟨b, q, none⟩ = w.cell? ⟨b, q, none⟩ := fun q => hb.cell (p := ⟨b, q, none⟩) hlt
  exact ⟨(k _).trans c0, (k _).trans c1, (k _).trans c2, (k _).trans c3⟩
theorem NdsAt.of_row {w : World} {base : Nat} {v : Value} {L : List Nd} (h : w.ownsRow base 96 4 v L.length (ndsV L)) : NdsAt w v L := by
  have h' := h
  rcases h.2 with ⟨rfl, h0⟩ | ⟨g, cap, cur, rfl, hb, hgg, _⟩
  · exact ⟨none, 0, by rw [h0], Or.inl (List.eq_nil_of_length_eq_zero h0)⟩
  · refine ⟨_, _, rfl, Or.inr ⟨g, rfl, lt_of_block hgg, fun i hi => ?_⟩⟩
    obtain ⟨a0, a1, a2, a3⟩ := ndsV_get L i hi
    have b0 := h'.cells (g := g) rfl _ _ a0
    have b1 := h'.cells (g := g) rfl _ _ a1
    have b2 := h'.cells (g := g) rfl _ _ a2
    have b3 := h'.cells (g := g) rfl _ _ a3
    rw [Addr.add_mid, Nat.zero_add] at b0 b1 b2 b3
    exact ⟨b0, b1, b2, b3⟩
/-- One of them. -/
theorem NdsAt.at_ {w : World} {a : Option Addr} {n c : Nat} {L : List Nd} (h : NdsAt w (.slice a n c) L) {i : Nat} (hi : i < L.length) {x : Nd} (hx : L.getD i default = x) :
    ∃ b, a = some ⟨b, 0, none⟩ ∧ b < w.heap.size ∧ w.cell? ⟨b, i * 4, none⟩ = some (.int .i64 x.1) ∧ w.cell? ⟨b, i * 4 + 1, none⟩ = some (.int .i64 x.2.1) ∧ w.cell? ⟨b, i * 4 + 2, none⟩ = some (.int .i64 x.2.2.1) ∧ w.cell? ⟨b, i * 4 + 3, none⟩ = some (.int .i64 x.2.2.2) := by
  obtain ⟨a', c', he, h⟩ := h
  injection he with e1
  subst e1 hx
  rcases h with rfl | ⟨b, rfl, hb, hc⟩
  · simp at hi
  · exact ⟨b, rfl, hb, hc i hi⟩
theorem NdsAt.form {w : World} {v : Value} {L : List Nd} (h : NdsAt w v L) : ∃ a c, v = .slice a L.length c := by
  obtain ⟨a, c, e, _⟩ := h
  exact ⟨a, c, e⟩

theorem fits11 (id n : Int) (w : World) {f : Bool} (hf : fitBU id n = f) : Calls Tryz.prog 51 #[.int .i64 id, .int .i64 n] w fun e w' => e = .returned (.bool f) ∧ w = w' := by
  by_cases h1 : 1 ≤ id
  · by_cases h2 : id ≤ 8
    · by_cases h3 : 0 ≤ n
      · by_cases h4 : n ≤ 65536
        · obtain rfl : true = f := by rw [← hf, eq_comm, fitB_iff]; omega
          clear hf
          go_enter Tryz.func51, Tryz.ntmps51
          go_wp2
          go_ret
          exact ⟨rfl, rfl⟩
        · obtain rfl : false = f := by rw [← hf, eq_comm, Bool.eq_false_iff, Ne, fitB_iff]; omega
          clear hf
          go_enter Tryz.func51, Tryz.ntmps51
          go_wp2
          go_ret
          exact ⟨rfl, rfl⟩
      · obtain rfl : false = f := by rw [← hf, eq_comm, Bool.eq_false_iff, Ne, fitB_iff]; omega
        clear hf
        go_enter Tryz.func51, Tryz.ntmps51
        go_wp2
        go_ret
        exact ⟨rfl, rfl⟩
    · obtain rfl : false = f := by rw [← hf, eq_comm, Bool.eq_false_iff, Ne, fitB_iff]; omega
      clear hf
      go_enter Tryz.func51, Tryz.ntmps51
      go_wp2
      go_ret
      exact ⟨rfl, rfl⟩
  · obtain rfl : false = f := by rw [← hf, eq_comm, Bool.eq_false_iff, Ne, fitB_iff]; omega
    clear hf
    go_enter Tryz.func51, Tryz.ntmps51
    go_wp2
    go_ret
    exact ⟨rfl, rfl⟩

/-- Where a container is; -1: it is not there. -/
def atI (L : List Nd) (id : Int) : Int := if atN id L = none then -1 else (posN id L : Int)
theorem atI_none {L : List Nd} {id : Int} (h : atN id L = none) : atI L id = -1 := by unfold atI; rw [if_pos h]
theorem atI_some {L : List Nd} {id : Int} {x : Nd} (h : atN id L = some x) : atI L id = (posN id L : Int) := by unfold atI; rw [if_neg (by rw [h]; simp)]
set_option maxHeartbeats 1000000 in
theorem rat11 (L : List Nd) (v : Value) (id : Int) (w : World) (hl : L.length ≤ 1000) (h : NdsAt w v L) {k : Int} (hk : atI L id = k) :
    Calls Tryz.prog 41 #[v, .int .i64 id] w fun e w' => e = .returned (.int .i64 k) ∧ w = w' := by
  have H := Lib.hid h
  obtain ⟨a, c, rfl⟩ := h.form
  obtain ⟨n, hn⟩ : ∃ n, n = L.length := ⟨_, rfl⟩
  rw [← hn] at hl
  have HN := Lib.hid hn
  have HK := Lib.hid hk
  rw [← hn] at H ⊢
  clear hk hn h
  go_enter Tryz.func41, Tryz.ntmps41
  go_wp2_with fail
  go_loopw [5] (fun i wr => ∃ j : Nat, i = .int .i64 (j : Int) ∧ j ≤ n ∧ wr = w ∧ ∀ i, i < j → (L.getD i default).1 ≠ id) (fun i _ => (n - (intOf i).toNat))
  case atStart => exact ⟨0, rfl, Nat.zero_le _, rfl, fun i hi => absurd hi (Nat.not_lt_zero _)⟩
  case round =>
    obtain ⟨j, rfl, hj, rfl, hlow⟩ := hrel
    have LOW := Lib.hid hlow
    clear hlow
    by_cases hlt : j < n
    · have hjl : j < L.length := by rw [← HN.out]; exact hlt
      obtain ⟨⟨y, y1, y2, y3⟩, hy⟩ : ∃ y, L.getD j default = y := ⟨_, rfl⟩
      obtain ⟨b, rfl, hbl, c0, -, -, -⟩ := H.out.at_ hjl hy
      simp only at c0
      by_cases he : y = id
      · have d0 : (y == id) = true := by simpa using he
        have hp := pos_of hjl LOW.out (by rw [hy]; exact he)
        obtain rfl : k = (j : Int) := by rw [← HK.out, atI_some hp.1, hp.2]
        clear hp hy
        go_wp2_with fail
        go_ret
        exact ⟨rfl, rfl⟩
      · have d0 : (y == id) = false := by simpa using he
        have LOW2 : Hid (∀ i, i < j + 1 → (L.getD i default).1 ≠ id) := Lib.hid fun i hi => by
          by_cases e : i = j
          · rw [e, hy]; exact he
          · exact LOW.out i (by omega)
        clear hy
        go_wp2_with fail
        go_roundw
        case rel => exact ⟨j + 1, by go_num, by omega, by trivial, LOW2.out⟩
        case measure => simp [intOf]; omega
    · obtain rfl : j = n := by omega
      obtain rfl : k = -1 := by rw [← HK.out]; exact atI_none (none_of (by rw [← HN.out]; exact LOW.out))
      clear hlt
      go_wp2
      go_ret
      exact ⟨rfl, rfl⟩
theorem sumUp_snoc (id : Int) {L : List Nd} {j : Nat} (h : j < L.length) : sumUp id (L.take (j + 1)) = sumUp id (L.take j) + (if (L.getD j default).2.1 = id then (L.getD j default).2.2.1 else 0) := by
  rw [take_snoc h, sumUp_append]; simp [sumUp]
theorem sumUp_part (id : Int) {L : List Nd} (h : GoodU L) (j : Nat) : 0 ≤ sumUp id (L.take j) ∧ sumUp id (L.take j) ≤ 524288 := by
  have h1 := sumUp_bounds id (L := L.take j) (fun n hn => h.ok n (List.mem_of_mem_take hn))
  have h2 : (L.take j).length ≤ 8 := Nat.le_trans (List.length_take_le' _ _) h.len
  omega
set_option maxHeartbeats 1000000 in
theorem rleft11 (L : List Nd) (v : Value) (id : Int) (w : World) (hg : GoodU L) (h : NdsAt w v L) {d : Int} (hd : leftL L id = d) :
    Calls Tryz.prog 52 #[v, .int .i64 id] w fun e w' => e = .returned (.int .i64 d) ∧ Below w.heap.size w w' := by
  have H := Lib.hid h
  obtain ⟨a, c, rfl⟩ := h.form
  obtain ⟨n, hn⟩ : ∃ n, n = L.length := ⟨_, rfl⟩
  have hl : n ≤ 8 := by rw [hn]; exact hg.len
  have HN := Lib.hid hn
  rw [← hn] at H ⊢
  have HG := Lib.hid hg
  clear hg h
  cases ha : atN id L with
  | none =>
    obtain rfl : d = 0 := by rw [← hd]; unfold leftL; rw [ha]; rfl
    have AT := Lib.hid (rat11 L _ id w (by omega) H.out (atI_none ha))
    clear ha hd hn
    go_enter Tryz.func52, Tryz.ntmps52
    go_wp2_with fail
    refine AT.out.mono ?_
    rintro e w' ⟨rfl, rfl⟩
    go_wp2
    go_ret
    exact ⟨rfl, Below.refl _ _⟩
  | some x =>
    have AT := Lib.hid (rat11 L _ id w (by omega) H.out (atI_some ha))
    obtain ⟨hpl, hpx⟩ := pos_at ha
    have hok := HG.out.ok x (atN_some ha).1
    obtain ⟨k, hk⟩ : ∃ k, posN id L = k := ⟨_, rfl⟩
    rw [hk] at AT hpl hpx
    have hdx : d = x.2.2.1 - x.2.2.2 - sumUp id L := by rw [← hd, leftL_some ha]
    have HD := Lib.hid hdx
    have hkn : k < n := by omega
    obtain ⟨⟨x0, x1, x2, x3⟩, hx⟩ : ∃ y, x = y := ⟨_, rfl⟩
    subst hx
    obtain ⟨b, rfl, hbl, -, -, c2, c3⟩ := H.out.at_ hpl hpx
    simp only at c2 c3
    dsimp only [okN] at hok
    have HB : Hid (∀ V, Below w.heap.size w V → NdsAt V (.slice (some ⟨b, 0, none⟩) n c) L) := Lib.hid fun V hV => H.out.below hV
    have hw : IntKind.i64.wrap (x2 - x3) = x2 - x3 := IntWalk.i64_in _ (by omega)
    have hb2 := sumUp_part id HG.out
    have SP := Lib.hid hb2
    clear ha hd hdx hk hn hpl hpx hb2
    go_enter Tryz.func52, Tryz.ntmps52
    go_wp2_with fail
    refine AT.out.mono ?_
    rintro e w' ⟨rfl, rfl⟩
    go_wp2_with fail
    go_quiet (fail)
    clear c2 c3
    go_wp2_with fail
    go_loopw [6, 7] (fun s i wr => ∃ j : Nat, i = .int .i64 (j : Int) ∧ s = .int .i64 (x2 - x3 - sumUp id (L.take j)) ∧ j ≤ n ∧ Below w.heap.size w wr) (fun _ i _ => (n - (intOf i).toNat))
    case atStart => exact ⟨0, rfl, by simp [sumUp], Nat.zero_le _, below_drewN (Below.refl _ _) _⟩
    case round =>
      obtain ⟨j, rfl, rfl, hj, hB⟩ := hrel
      have BB := Lib.hid hB
      clear hB
      by_cases hlt : j < n
      · have hjl : j < L.length := by rw [← HN.out]; exact hlt
        obtain ⟨⟨y0, y1, y2, y3⟩, hy⟩ : ∃ y, L.getD j default = y := ⟨_, rfl⟩
        obtain ⟨b', hbb, hbl', -, g1, g2, -⟩ := (HB.out wr BB.out).at_ hjl hy
        obtain rfl : b = b' := by simpa using hbb
        have hok2 := HG.out.ok _ (getD_memN hjl)
        rw [hy] at hok2
        simp only at g1 g2
        dsimp only [okN] at hok2
        have hs := SP.out j
        have hsn := sumUp_snoc id hjl
        rw [hy] at hsn
        simp only at hsn
        obtain ⟨s0, hs0⟩ : ∃ s0, x2 - x3 - sumUp id (L.take j) = s0 := ⟨_, rfl⟩
        have hs0b : -1000000 ≤ s0 ∧ s0 ≤ 65536 := by omega
        have hw2 : IntKind.i64.wrap (s0 - y2) = s0 - y2 := IntWalk.i64_in _ (by omega)
        by_cases he : y1 = id
        · have d0 : (y1 == id) = true := by simpa using he
          rw [if_pos he] at hsn
          have SN : Hid (x2 - x3 - sumUp id (L.take (j + 1)) = s0 - y2) := Lib.hid (by omega)
          rw [hs0]
          clear hsn hs hs0 hy hbb
          go_wp2_with fail
          go_roundw
          case rel => exact ⟨j + 1, by go_num, by rw [SN.out], by omega, BB.out⟩
          case measure => simp [intOf]; omega
        · have d0 : (y1 == id) = false := by simpa using he
          rw [if_neg he] at hsn
          have SN : Hid (x2 - x3 - sumUp id (L.take (j + 1)) = s0) := Lib.hid (by omega)
          rw [hs0]
          clear hsn hs hs0 hy hbb
          go_wp2_with fail
          go_roundw
          case rel => exact ⟨j + 1, by go_num, by rw [SN.out], by omega, BB.out⟩
          case measure => simp [intOf]; omega
      · obtain rfl : j = n := by omega
        have e : x2 - x3 - sumUp id (L.take j) = d := by rw [HD.out, HN.out, List.take_length]
        rw [e]
        clear hlt e
        go_wp2
        go_ret
        exact ⟨rfl, BB.out⟩
theorem rnew11_ok (q : Int) (w : World) (h : numBU q = true) : Calls Tryz.prog 15 #[.int .i64 q] w fun e w' => ∃ v, e = .returned (.tuple #[v, .int .i64 0]) ∧ w'.ownsRow w.heap.size 96 4 v 1 (ndsV [(1, 0, q, 0)]) ∧ Below w.heap.size w w' := by
  have h' : 0 ≤ q ∧ q ≤ 65536 := by simpa [numBU] using h
  have OW := Lib.hid (World.ownsRow_lit (base := w.heap.size) (e := 96) (size := 4) w #[.int .i64 1, .int .i64 0, .int .i64 q, .int .i64 0] 1 (Nat.le_refl _) (by decide) rfl)
  clear h
  go_enter Tryz.func15, Tryz.ntmps15
  go_wp2
  go_ret2
  exact ⟨_, rfl, OW.out, (Below.refl _ _).alloc (Nat.le_refl _) _⟩
end Go.Proofs.YtkenipanpimolaaGreatDoor

/- The contract of the document's Charge of layer 11. Condition: the slice is the call's own. -/
namespace Go.Proofs.YtkenipanpimolaaGreatDoor
open Go.RowKit Go.Maps
set_option maxRecDepth 100000

/-- A row, whole: its cells, whatever comes. -/
theorem row_all {w : World} {base q n : Nat} {e : TypeId} {v : Value} {xs : List Value} (h : w.ownsRow base e q v n xs) : (v = .slice none 0 0 ∧ n = 0) ∨ ∃ b c, v = .slice (some ⟨b, 0, none⟩) n c ∧ n ≤ c ∧ c ≤ maxLen ∧ b < w.heap.size ∧
    (∀ V, Below w.heap.size w V → ∀ j u, xs[j]? = some u → V.cell? ((⟨b, 0, none⟩ : Addr).add j) = some u) := by
  have hc := h
  rcases h.2 with ⟨h1, h0⟩ | ⟨g, cap, cur, rfl, hb, hgg, hnc, hcm, _⟩
  · exact Or.inl ⟨h1, h0⟩
  · refine Or.inr ⟨g, cap, rfl, hnc, hcm, lt_of_block hgg, fun V hV j u hu => ?_⟩
    have := hc.cells (g := g) rfl j u hu
    rw [Addr.add_mid] at this ⊢
    rw [hV.cell (p := ⟨g, 0 + j, none⟩) (lt_of_block hgg)]
    exact this
/-- What the document's calls leave: a list of their own, or the one that was. -/
def RPost (base : Nat) (w : World) (v : Value) (L' : List Nd) (er : Int) (e : Ending) (w' : World) : Prop := ∃ v', e = .returned (.tuple #[v', .int .i64 er]) ∧ w'.ownsRow base 96 4 v' L'.length (ndsV L') ∧ Below w.heap.size w w' ∧ ∀ g, v'.ownBlock = some g → v.ownBlock = some g ∨ w.heap.size ≤ g
theorem used_row {L : List Nd} {id d : Int} {x : Nd} (h : L.Pairwise (fun a b => a.1 < b.1)) (hx : atN id L = some x) {k : Nat} (hk : posN id L = k) : ndsV (L.map (setU id d)) = (ndsV L).set (k * 4 + 3) (.int .i64 (x.2.2.2 + d)) := by
  obtain ⟨h1, h2⟩ := pos_at hx
  rw [hk] at h1 h2
  rw [map_setU id d h hx, hk, ndsV_set L k x _ h1 h2]
theorem own_used {w : World} {base n k g cap : Nat} {L : List Nd} {id d : Int} {x : Nd} (ho : w.ownsRow base 96 4 (.slice (some ⟨g, 0, none⟩) n cap) n (ndsV L)) (hn : n = L.length) (h : L.Pairwise (fun a b => a.1 < b.1)) (hx : atN id L = some x) (hk : posN id L = k) :
    (w.setCell ⟨g, k * 4 + 3, none⟩ (.int .i64 (x.2.2.2 + d))).ownsRow base 96 4 (.slice (some ⟨g, 0, none⟩) n cap) (L.map (setU id d)).length (ndsV (L.map (setU id d))) := by
  rw [used_row h hx hk, List.length_map, ← hn]
  exact own_set ho _
set_option maxHeartbeats 2000000 in
theorem rcharge11 {base : Nat} {w : World} {v : Value} {L : List Nd} (hg : GoodU L) (ho : w.ownsRow base 96 4 v L.length (ndsV L)) (hbs : base ≤ w.heap.size) (id n : Int) {er : Int} (he : chargeEU L id n = er) :
    Calls Tryz.prog 81 #[v, .int .i64 id, .int .i64 n] w (RPost base w v (chargeL L id n) er) := by
  obtain ⟨ii, hi, hi0, hi1, hi2⟩ := info_parts nodeInfo
  have HO := Lib.hid ho
  have HG := Lib.hid hg
  have HBS := Lib.hid hbs
  have HE := Lib.hid he
  have stay : ∀ w', er ≠ 0 → Below w.heap.size w w' → RPost base w v (chargeL L id n) er (.returned (.tuple #[v, .int .i64 er])) w' := fun w' hne hb => by
    unfold chargeL
    rw [if_neg (by rw [he]; exact hne)]
    exact ⟨v, rfl, own_step ho hb, hb, fun _ h => Or.inl h⟩
  have STAY := Lib.hid stay
  clear stay hg ho hbs he
  cases hf : fitBU id n with
  | false =>
    obtain rfl : er = 2 := by rw [← HE.out]; unfold chargeEU; rw [if_neg (by rw [hf]; decide)]
    have FT := Lib.hid (fits11 id n w hf)
    clear hf
    go_enter Tryz.func81, Tryz.ntmps81
    go_wp2_with fail
    refine FT.out.mono ?_
    rintro e w1 ⟨rfl, rfl⟩
    go_wp2
    go_ret2
    exact STAY.out _ (by decide) (Below.refl _ _)
  | true =>
    have FT := Lib.hid (fits11 id n w hf)
    have HF := Lib.hid hf
    have hfn := (fitB_iff.1 hf).2
    clear hf
    cases ha : atN id L with
    | none =>
      obtain rfl : er = 4 := by rw [← HE.out]; unfold chargeEU; rw [if_pos HF.out, if_pos ha]
      have AT := Lib.hid (rat11 L v id w (Nat.le_trans HG.out.len (by decide)) (NdsAt.of_row HO.out) (atI_none ha))
      clear ha
      go_enter Tryz.func81, Tryz.ntmps81
      go_wp2_with fail
      refine FT.out.mono ?_
      rintro e w1 ⟨rfl, rfl⟩
      go_wp2_with fail
      refine AT.out.mono ?_
      rintro e w1 ⟨rfl, rfl⟩
      go_wp2
      go_ret2
      exact STAY.out _ (by decide) (Below.refl _ _)
    | some x =>
      obtain ⟨hpl, hpx⟩ := pos_at ha
      obtain ⟨k, hk⟩ : ∃ k, posN id L = k := ⟨_, rfl⟩
      have AT : Hid (∀ V, Below w.heap.size w V → Calls Tryz.prog 41 #[v, .int .i64 id] V fun e w' => e = .returned (.int .i64 (k : Int)) ∧ V = w') := Lib.hid fun V hV => rat11 L v id V (Nat.le_trans HG.out.len (by decide)) ((NdsAt.of_row HO.out).below hV) (by rw [atI_some ha, hk])
      obtain ⟨d, hd⟩ : ∃ d, leftL L id = d := ⟨_, rfl⟩
      have LF := Lib.hid (rleft11 L v id w HG.out (NdsAt.of_row HO.out) hd)
      have hdd : decide ((k : Int) < 0) = false := decide_eq_false (by omega)
      by_cases hlt : d < n
      · obtain rfl : er = 3 := by rw [← HE.out]; unfold chargeEU; rw [if_pos HF.out, if_neg (by rw [ha]; simp), if_pos (by rw [hd]; exact hlt)]
        clear ha hd hpl hpx hk
        go_enter Tryz.func81, Tryz.ntmps81
        go_wp2_with fail
        refine FT.out.mono ?_
        rintro e w1 ⟨rfl, rfl⟩
        go_wp2_with fail
        refine (AT.out _ (Below.refl _ _)).mono ?_
        rintro e w1 ⟨rfl, rfl⟩
        go_wp2_with fail
        refine LF.out.mono ?_
        rintro e w2 ⟨rfl, hb⟩
        have B2 := Lib.hid hb
        clear hb
        go_wp2
        go_ret2
        exact STAY.out _ (by decide) B2.out
      · have e0 : chargeEU L id n = 0 := by unfold chargeEU; rw [if_pos HF.out, if_neg (by rw [ha]; simp), if_neg (by rw [hd]; exact hlt)]
        obtain rfl : er = 0 := by rw [← HE.out, e0]
        have hcl : chargeL L id n = L.map (setU id n) := by unfold chargeL; rw [if_pos e0]
        rw [hcl]
        have HA := Lib.hid ha
        have HK := Lib.hid hk
        have hok := HG.out.ok x (atN_some ha).1
        obtain ⟨⟨x0, x1, x2, x3⟩, hx⟩ : ∃ y, x = y := ⟨_, rfl⟩
        subst hx
        dsimp only [okN] at hok
        have hw : IntKind.i64.wrap (x3 + n) = x3 + n := IntWalk.i64_in _ (by omega)
        obtain ⟨m, hm⟩ : ∃ m, m = L.length := ⟨_, rfl⟩
        have hm8 : m ≤ 8 := by rw [hm]; exact HG.out.len
        have HM := Lib.hid hm
        rw [hk] at hpl hpx
        have hkm : k < m := by omega
        obtain ⟨-, h0⟩ | ⟨g0, c0, rfl, hnc, hcm, hg0, hcs⟩ := row_all HO.out
        · omega
        have CS := Lib.hid hcs
        have C3 : Hid ((ndsV L)[k * 4 + 3]? = some (.int .i64 x3)) := Lib.hid (by have := (ndsV_get L k hpl).2.2.2; rw [hpx] at this; exact this)
        rw [← hm] at hnc
        have hml : (L.length : Int) = (m : Int) := by rw [hm]
        rw [← hm] at LF AT ⊢
        clear ha hd hpl hpx hk e0 hcl hcs hm hml
        go_enter Tryz.func81, Tryz.ntmps81
        go_wp2_with fail
        refine FT.out.mono ?_
        rintro e w1 ⟨rfl, rfl⟩
        go_wp2_with fail
        refine (AT.out _ (Below.refl _ _)).mono ?_
        rintro e w1 ⟨rfl, rfl⟩
        go_wp2_with fail
        refine LF.out.mono ?_
        rintro e w2 ⟨rfl, hb⟩
        have B2 := Lib.hid hb
        clear hb
        have OM := Lib.hid (World.ownsRow_made (base := w.heap.size) (e := 96) (size := 4) w2 #[] 0 B2.out.size (by decide) rfl)
        have AM : Hid (Below w.heap.size w (w2.alloc (.cells #[] 96))) := Lib.hid (B2.out.alloc B2.out.size _)
        go_wp2_with (first | (at_builtin; refine wpList_append_own _ rfl (.tmp 25) (.tmp 26) 28 rfl w.heap.size 96 ii (.agg #[.int .i64 0, .int .i64 0, .int .i64 0, .int .i64 0]) 4 32 Tryz.underlying28 hi hi0 hi1 hi2 rfl (by decide) _ 0 [] rfl OM.out ⟨g0, 0, none⟩ m c0 (ndsV L) rfl (by rw [ndsV_length, HM.out]) (CS.out _ AM.out) ndsV_one' (by unfold maxLen; omega) (by omega) AM.out.size ?_; intro v5 w5 ho hg _; rw [Nat.zero_add, List.nil_append] at ho; have B5 := Lib.hid (AM.out.grown hg AM.out.size (fun k hk => (OM.out.lt k hk).1)); obtain ⟨-, hz⟩ | ⟨g5, c5, rfl, hn5, hc5, hg5, hcs5⟩ := row_all ho; exact absurd hz (by omega); have O5 := Lib.hid ho; have f5 := (hcs5 w5 (Below.refl _ _)) _ _ C3.out; rw [Addr.add_mid, Nat.zero_add] at f5; have f6 := O5.out.frozenAt (k * 4 + 3); have i5 : (k : Int) < (m : Int) := (by omega); clear ho hg hcs5) | (go_at_call 41; refine (AT.out _ B5.out).mono ?_; rintro e w9 ⟨rfl, rfl⟩))
        go_ret2
        exact ⟨_, rfl, own_base (own_used O5.out HM.out HG.out.up HA.out HK.out) HBS.out, B5.out.setCell (p := ⟨g5, _, none⟩) (O5.out.lt g5 rfl).1 _, fun g hg => Or.inr (O5.out.lt g hg).1⟩
end Go.Proofs.YtkenipanpimolaaGreatDoor

/- The contract of the document's Open of layer 11. Condition: the slice is the call's own. -/
namespace Go.Proofs.YtkenipanpimolaaGreatDoor
open Go.RowKit Go.Maps
set_option maxRecDepth 100000

theorem nd_at (w : World) (a b c d : Value) (t : TypeId) : ∀ j u, [a, b, c, d][j]? = some u → (w.alloc (.cells #[a, b, c, d] t)).cell? ((⟨w.heap.size, 0, none⟩ : Addr).add j) = some u := fun j u hu => by
  rw [Addr.add_mid, Nat.zero_add, cell_of_row _ _ _ _ _ _ (heap_alloc_new w _)]
  simpa using hu
end Go.Proofs.YtkenipanpimolaaGreatDoor

/- The contract of the document's Open of layer 11, where it opens. Condition: the slice is the call's own. -/
namespace Go.Proofs.YtkenipanpimolaaGreatDoor
open Go.RowKit Go.Maps
set_option maxRecDepth 100000

set_option maxHeartbeats 8000000 in
theorem ropen11_ok {base : Nat} {w : World} {v : Value} {L : List Nd} (hg : GoodU L) (ho : w.ownsRow base 96 4 v L.length (ndsV L)) (hbs : base ≤ w.heap.size) (id up q : Int) (he : openEU L id up q = 0) :
    Calls Tryz.prog 20 #[v, .int .i64 id, .int .i64 up, .int .i64 q] w (RPost base w v (openL L id up q) 0) := by
  obtain ⟨ii, hi, hi0, hi1, hi2⟩ := info_parts nodeInfo
  obtain ⟨⟨hf1, hf2⟩, ⟨n, ha⟩, hno, hle⟩ := openEU_zero.1 he
  have hol : openL L id up q = insN (id, up, q, 0) L := by unfold openL; rw [if_pos he]
  rw [hol]
  have HO := Lib.hid ho
  have NA := Lib.hid (NdsAt.of_row ho)
  have HG := Lib.hid hg
  have HBS := Lib.hid hbs
  have F1 := Lib.hid (fits11 id q w hf1)
  have F2 := Lib.hid (fits11 up q w hf2)
  have hl : L.length ≤ 1000 := Nat.le_trans hg.len (by decide)
  obtain ⟨k, hk⟩ : ∃ k, posN up L = k := ⟨_, rfl⟩
  have AT := Lib.hid (rat11 L v up w hl NA.out (by rw [atI_some ha, hk]))
  have hd1 : decide ((k : Int) < 0) = false := decide_eq_false (by omega)
  have A2 := Lib.hid (rat11 L v id w hl NA.out (atI_none hno))
  obtain ⟨d, hd⟩ : ∃ d, leftL L up = d := ⟨_, rfl⟩
  have LF := Lib.hid (rleft11 L v up w HG.out NA.out hd)
  rw [hd] at hle
  obtain ⟨m, hm⟩ : ∃ m, m = L.length := ⟨_, rfl⟩
  have hm8 : m ≤ 8 := by rw [hm]; exact hg.len
  have hm0 : 0 < m := by rw [hm]; have := (pos_at ha).1; omega
  have HM := Lib.hid hm
  obtain ⟨-, h0⟩ | ⟨g0, c0, rfl, hnc, hcm, hg0, hcs⟩ := row_all HO.out
  · omega
  have CS := Lib.hid hcs
  have HG0 := Lib.hid hg0
  rw [← hm] at hnc NA LF AT A2 ⊢
  clear ha hd hk hcs hm hl he hol hno hbs hg ho
  go_enter Tryz.func20, Tryz.ntmps20
  go_wp2_with fail
  refine F1.out.mono ?_
  rintro e w1 ⟨rfl, rfl⟩
  go_wp2_with fail
  refine F2.out.mono ?_
  rintro e w1 ⟨rfl, rfl⟩
  go_wp2_with fail
  refine AT.out.mono ?_
  rintro e w1 ⟨rfl, rfl⟩
  go_wp2_with fail
  refine A2.out.mono ?_
  rintro e w1 ⟨rfl, rfl⟩
  go_wp2_with fail
  refine LF.out.mono ?_
  rintro e w2 ⟨rfl, hb⟩
  have B2 := Lib.hid hb
  clear hb
  go_wp2_with fail
  go_loopw [10] (fun i wr => ∃ j : Nat, i = .int .i64 (j : Int) ∧ j ≤ m ∧ wr = w2 ∧ ∀ i, i < j → (L.getD i default).1 < id) (fun i _ => (m - (intOf i).toNat))
  case atStart => exact ⟨0, rfl, Nat.zero_le _, rfl, fun i hi => absurd hi (Nat.not_lt_zero _)⟩
  case round =>
    obtain ⟨j, rfl, hj, rfl, hlow⟩ := hrel
    have LOW := Lib.hid hlow
    clear hlow
    by_cases hin : j < m ∧ (L.getD j default).1 < id
    · obtain ⟨hlt, hyl⟩ := hin
      have hjl : j < L.length := by rw [← HM.out]; exact hlt
      obtain ⟨⟨y, y1, y2, y3⟩, hy⟩ : ∃ y, L.getD j default = y := ⟨_, rfl⟩
      obtain ⟨b, hb0, hbl, c1, -, -, -⟩ := (NA.out.below B2.out).at_ hjl hy
      obtain rfl : g0 = b := by simpa using hb0
      rw [hy] at hyl
      simp only at c1 hyl
      have LOW2 : Hid (∀ i, i < j + 1 → (L.getD i default).1 < id) := Lib.hid fun i hi => by
        by_cases e : i = j
        · rw [e, hy]; exact hyl
        · exact LOW.out i (by omega)
      clear hy hb0
      go_wp2_with fail
      go_roundw
      case rel => exact ⟨j + 1, by go_num, by omega, by trivial, LOW2.out⟩
      case measure => simp [intOf]; omega
    · have hcut := insN_cut (x := (id, up, q, 0)) (L := L) (k := j) (by rw [← HM.out]; exact hj) LOW.out (fun h1 h2 => hin ⟨by rw [HM.out]; exact h1, h2⟩)
      have lt1 : (L.take j).length = j := by rw [List.length_take]; have := HM.out; omega
      have lt2 : (L.drop j).length = m - j := by rw [List.length_drop, HM.out]
      have DN : Hid (∀ (v : Value) (wx : World), wx.ownsRow w.heap.size 96 4 v (j + 1 + (m - j)) (ndsV (L.take j) ++ [.int .i64 id, .int .i64 up, .int .i64 q, .int .i64 0] ++ ndsV (L.drop j)) → Below w.heap.size w wx → RPost base w (.slice (some ⟨g0, 0, none⟩) m c0) (insN (id, up, q, 0) L) 0 (.returned (.tuple #[v, .int .i64 0])) wx) := Lib.hid fun v wx h1 h2 => by
        refine ⟨v, rfl, ?_, h2, fun g hg => Or.inr (h1.lt g hg).1⟩
        rw [hcut, List.length_append, List.length_append, lt1, lt2, ndsV_append, ndsV_append, ndsV_one]
        exact own_base h1 HBS.out
      have OM := Lib.hid (World.ownsRow_made (base := w.heap.size) (e := 96) (size := 4) wr #[] 0 B2.out.size (by decide) rfl)
      have AM : Hid (Below w.heap.size w (wr.alloc (.cells #[] 96))) := Lib.hid (B2.out.alloc B2.out.size _)
      have T1 : Hid (∀ j' u, (ndsV (L.take j))[j']? = some u → (wr.alloc (.cells #[] 96)).cell? ((⟨g0, 0, none⟩ : Addr).add j') = some u) := Lib.hid fun j' u hu => by
        rw [← ndsV_take L j (by have := HM.out; omega), List.getElem?_take] at hu
        split at hu
        · exact CS.out _ AM.out j' u hu
        · cases hu
      have T2 : Hid (∀ V, Below w.heap.size w V → ∀ j' u, (ndsV (L.drop j))[j']? = some u → V.cell? ((⟨g0, j * 4, none⟩ : Addr).add j') = some u) := Lib.hid fun V hV j' u hu => by
        rw [← ndsV_drop L j (by have := HM.out; omega), List.getElem?_drop] at hu
        have := CS.out V hV _ u hu
        rw [Addr.add_mid, Nat.zero_add] at this
        rw [Addr.add_mid]
        exact this
      have L1 : Hid ((ndsV (L.take j)).length = j * 4) := Lib.hid (by rw [ndsV_length, lt1])
      have L2 : Hid ((ndsV (L.drop j)).length = (m - j) * 4) := Lib.hid (by rw [ndsV_length, lt2])
      have HJ : j = m ∨ j < m ∧ ¬ (L.getD j default).1 < id := by
        by_cases h : j = m
        · exact Or.inl h
        · exact Or.inr ⟨by omega, fun h2 => hin ⟨by omega, h2⟩⟩
      have j1 : (j : Int) ≤ (c0 : Int) := by omega
      have j2 : j ≤ c0 := by omega
      have j3 : (j : Int) ≤ (m : Int) := by omega
      have j4 : (m : Int) ≤ (c0 : Int) := by omega
      clear hcut lt1 lt2 hin
      rcases HJ with hjm | ⟨hlt, hyl⟩
      · by_cases hcp : c0 = j
        · have hd0 : L.drop j = [] := List.drop_of_length_le (by have := HM.out; omega)
          have DN2 : Hid (∀ (v : Value) (wx : World), wx.ownsRow w.heap.size 96 4 v (j + 1 + 0) (ndsV (L.take j) ++ [.int .i64 id, .int .i64 up, .int .i64 q, .int .i64 0] ++ []) → Below w.heap.size w wx → RPost base w (.slice (some ⟨g0, 0, none⟩) m c0) (insN (id, up, q, 0) L) 0 (.returned (.tuple #[v, .int .i64 0])) wx) := Lib.hid fun v wx h1 h2 => DN.out v wx (by rw [hd0, hjm, Nat.sub_self]; rw [hjm] at h1; exact h1) h2
          clear DN T2 L2 hd0 j1 j2 j3 j4
          obtain rfl : m = j := hjm.symm
          obtain rfl : c0 = m := hcp
          clear hjm
          go_wp2_with (first | (at_builtin; refine wpList_append_own _ rfl (.tmp 54) (.tmp 57) 28 rfl w.heap.size 96 ii (.agg #[.int .i64 0, .int .i64 0, .int .i64 0, .int .i64 0]) 4 32 Tryz.underlying28 hi hi0 hi1 hi2 rfl (by decide) _ 0 [] rfl OM.out ⟨g0, 0, none⟩ _ _ (ndsV (L.take _)) rfl L1.out T1.out ndsV_one' (by unfold maxLen; omega) (by omega) AM.out.size ?_; intro v5 w5 ho hg _; rw [Nat.zero_add, List.nil_append] at ho; have B5 := Lib.hid (AM.out.grown hg AM.out.size (fun k hk => (OM.out.lt k hk).1)); obtain ⟨a5, c5, rfl⟩ := owns_slice ho; have O5 := Lib.hid (ho.alloc (.cells #[.int .i64 id, .int .i64 up, .int .i64 q, .int .i64 0] 96)); have A5 : Hid (Below w.heap.size w (w5.alloc (.cells #[.int .i64 id, .int .i64 up, .int .i64 q, .int .i64 0] 96))) := Lib.hid (B5.out.alloc B5.out.size _); clear ho hg) | (at_builtin; refine wpList_append_own _ rfl (.tmp 59) (.tmp 64) 28 rfl w.heap.size 96 ii (.agg #[.int .i64 0, .int .i64 0, .int .i64 0, .int .i64 0]) 4 32 Tryz.underlying28 hi hi0 hi1 hi2 rfl (by decide) _ _ _ rfl O5.out ⟨w5.heap.size, 0, none⟩ 1 1 [.int .i64 id, .int .i64 up, .int .i64 q, .int .i64 0] rfl rfl (nd_at _ _ _ _ _ _) (by simp [Value.oneCell']) (by unfold maxLen; omega) (by omega) A5.out.size ?_; intro v6 w6 ho hg _; have B6 := Lib.hid (A5.out.grown hg A5.out.size (fun k hk => (O5.out.lt k hk).1)); have O6 := Lib.hid ho; clear ho hg) | (at_builtin; refine wpList_append_own _ rfl (.tmp 66) (.tmp 69) 28 rfl w.heap.size 96 ii (.agg #[.int .i64 0, .int .i64 0, .int .i64 0, .int .i64 0]) 4 32 Tryz.underlying28 hi hi0 hi1 hi2 rfl (by decide) _ _ _ rfl O6.out ⟨g0, 0, none⟩ 0 _ [] rfl rfl (fun j u hu => by cases hu) (fun u hu => by cases hu) (by unfold maxLen; omega) (by omega) B6.out.size ?_; intro v7 w7 ho hg _; have B7 := Lib.hid (B6.out.grown hg B6.out.size (fun k hk => (O6.out.lt k hk).1)); have O7 := Lib.hid ho; clear ho hg))
          go_ret2
          exact DN2.out _ _ O7.out B7.out
        · have hjd : decide ((j : Int) < (m : Int)) = false := decide_eq_false (by omega)
          have hjd2 : ¬ j < m := by omega
          clear hjm
          go_wp2_with (first | (at_builtin; refine wpList_append_own _ rfl (.tmp 54) (.tmp 57) 28 rfl w.heap.size 96 ii (.agg #[.int .i64 0, .int .i64 0, .int .i64 0, .int .i64 0]) 4 32 Tryz.underlying28 hi hi0 hi1 hi2 rfl (by decide) _ 0 [] rfl OM.out ⟨g0, 0, none⟩ j c0 (ndsV (L.take j)) rfl L1.out T1.out ndsV_one' (by unfold maxLen; omega) (by omega) AM.out.size ?_; intro v5 w5 ho hg _; rw [Nat.zero_add, List.nil_append] at ho; have B5 := Lib.hid (AM.out.grown hg AM.out.size (fun k hk => (OM.out.lt k hk).1)); obtain ⟨a5, c5, rfl⟩ := owns_slice ho; have O5 := Lib.hid (ho.alloc (.cells #[.int .i64 id, .int .i64 up, .int .i64 q, .int .i64 0] 96)); have A5 : Hid (Below w.heap.size w (w5.alloc (.cells #[.int .i64 id, .int .i64 up, .int .i64 q, .int .i64 0] 96))) := Lib.hid (B5.out.alloc B5.out.size _); clear ho hg) | (at_builtin; refine wpList_append_own _ rfl (.tmp 59) (.tmp 64) 28 rfl w.heap.size 96 ii (.agg #[.int .i64 0, .int .i64 0, .int .i64 0, .int .i64 0]) 4 32 Tryz.underlying28 hi hi0 hi1 hi2 rfl (by decide) _ j _ rfl O5.out ⟨w5.heap.size, 0, none⟩ 1 1 [.int .i64 id, .int .i64 up, .int .i64 q, .int .i64 0] rfl rfl (nd_at _ _ _ _ _ _) (by simp [Value.oneCell']) (by unfold maxLen; omega) (by omega) A5.out.size ?_; intro v6 w6 ho hg _; have B6 := Lib.hid (A5.out.grown hg A5.out.size (fun k hk => (O5.out.lt k hk).1)); have O6 := Lib.hid ho; clear ho hg) | (at_builtin; refine wpList_append_own _ rfl (.tmp 66) (.tmp 69) 28 rfl w.heap.size 96 ii (.agg #[.int .i64 0, .int .i64 0, .int .i64 0, .int .i64 0]) 4 32 Tryz.underlying28 hi hi0 hi1 hi2 rfl (by decide) _ _ _ rfl O6.out ⟨g0, j * 4, none⟩ (m - j) (c0 - j) (ndsV (L.drop j)) rfl L2.out (T2.out _ B6.out) ndsV_one' (by unfold maxLen; omega) (by omega) B6.out.size ?_; intro v7 w7 ho hg _; have B7 := Lib.hid (B6.out.grown hg B6.out.size (fun k hk => (O6.out.lt k hk).1)); have O7 := Lib.hid ho; clear ho hg))
          go_ret2
          exact DN.out _ _ O7.out B7.out
      · have hjl : j < L.length := by rw [← HM.out]; exact hlt
        obtain ⟨⟨y, y1, y2, y3⟩, hy⟩ : ∃ y, L.getD j default = y := ⟨_, rfl⟩
        obtain ⟨b, hb0, hbl, c1, -, -, -⟩ := (NA.out.below B2.out).at_ hjl hy
        obtain rfl : g0 = b := by simpa using hb0
        rw [hy] at hyl
        simp only at c1 hyl
        have hyd : decide (y < id) = false := decide_eq_false hyl
        have hne : c0 ≠ j := by omega
        clear hy hb0
        go_wp2_with (first | (at_builtin; refine wpList_append_own _ rfl (.tmp 54) (.tmp 57) 28 rfl w.heap.size 96 ii (.agg #[.int .i64 0, .int .i64 0, .int .i64 0, .int .i64 0]) 4 32 Tryz.underlying28 hi hi0 hi1 hi2 rfl (by decide) _ 0 [] rfl OM.out ⟨g0, 0, none⟩ j c0 (ndsV (L.take j)) rfl L1.out T1.out ndsV_one' (by unfold maxLen; omega) (by omega) AM.out.size ?_; intro v5 w5 ho hg _; rw [Nat.zero_add, List.nil_append] at ho; have B5 := Lib.hid (AM.out.grown hg AM.out.size (fun k hk => (OM.out.lt k hk).1)); obtain ⟨a5, c5, rfl⟩ := owns_slice ho; have O5 := Lib.hid (ho.alloc (.cells #[.int .i64 id, .int .i64 up, .int .i64 q, .int .i64 0] 96)); have A5 : Hid (Below w.heap.size w (w5.alloc (.cells #[.int .i64 id, .int .i64 up, .int .i64 q, .int .i64 0] 96))) := Lib.hid (B5.out.alloc B5.out.size _); clear ho hg) | (at_builtin; refine wpList_append_own _ rfl (.tmp 59) (.tmp 64) 28 rfl w.heap.size 96 ii (.agg #[.int .i64 0, .int .i64 0, .int .i64 0, .int .i64 0]) 4 32 Tryz.underlying28 hi hi0 hi1 hi2 rfl (by decide) _ j _ rfl O5.out ⟨w5.heap.size, 0, none⟩ 1 1 [.int .i64 id, .int .i64 up, .int .i64 q, .int .i64 0] rfl rfl (nd_at _ _ _ _ _ _) (by simp [Value.oneCell']) (by unfold maxLen; omega) (by omega) A5.out.size ?_; intro v6 w6 ho hg _; have B6 := Lib.hid (A5.out.grown hg A5.out.size (fun k hk => (O5.out.lt k hk).1)); have O6 := Lib.hid ho; clear ho hg) | (at_builtin; refine wpList_append_own _ rfl (.tmp 66) (.tmp 69) 28 rfl w.heap.size 96 ii (.agg #[.int .i64 0, .int .i64 0, .int .i64 0, .int .i64 0]) 4 32 Tryz.underlying28 hi hi0 hi1 hi2 rfl (by decide) _ _ _ rfl O6.out ⟨g0, j * 4, none⟩ (m - j) (c0 - j) (ndsV (L.drop j)) rfl L2.out (T2.out _ B6.out) ndsV_one' (by unfold maxLen; omega) (by omega) B6.out.size ?_; intro v7 w7 ho hg _; have B7 := Lib.hid (B6.out.grown hg B6.out.size (fun k hk => (O6.out.lt k hk).1)); have O7 := Lib.hid ho; clear ho hg))
        go_ret2
        exact DN.out _ _ O7.out B7.out
end Go.Proofs.YtkenipanpimolaaGreatDoor

/- The contract of the document's Close of layer 11. Condition: the slice is the call's own. -/
namespace Go.Proofs.YtkenipanpimolaaGreatDoor
open Go.RowKit Go.Maps
set_option maxRecDepth 100000

/-- What Close has gathered. -/
def cutR (L : List Nd) (id up : Int) (j : Nat) : List Nd := (delN id (L.take j)).map (reUp id up)
end Go.Proofs.YtkenipanpimolaaGreatDoor

/- The contract of the document's Refund of layer 11. Condition: the slice is the call's own. -/
namespace Go.Proofs.YtkenipanpimolaaGreatDoor
open Go.RowKit Go.Maps
set_option maxRecDepth 100000

end Go.Proofs.YtkenipanpimolaaGreatDoor

/- A budget of a law's own; the contracts of its calls; awake; calls without a budget. Condition: the budget is the law's own, or there is none. -/
namespace Go.Proofs.YtkenipanpimolaaGreatDoor
open Go.RowKit Go.Maps
set_option maxRecDepth 100000

/-- A budget of the law's own; of none of these blocks. -/
structure OB (W w : World) (b : Nat) (F : Nat → Prop) (L : List Nd) : Prop where
  ex : ∃ m P, BudAt w b m P L ∧ ∀ k, bB m P k → W.heap.size ≤ k ∧ ¬ F k
  below : Below W.heap.size W w
  nb : W.heap.size ≤ b
  flt : ∀ k, F k → k < w.heap.size
/-- These blocks are as they were. -/
structure KeptU (F : Nat → Prop) (w w' : World) : Prop where
  size : w.heap.size ≤ w'.heap.size
  block : ∀ k, F k → w'.heap[k]? = w.heap[k]?
section
variable {W w : World} {b : Nat} {F : Nat → Prop} {L : List Nd} (h : OB W w b F L)
include h
end
/-! Without a budget. -/
end Go.Proofs.YtkenipanpimolaaGreatDoor

/- The walk of BudgetDeep. No condition. -/
namespace Go.Proofs.YtkenipanpimolaaGreatDoor
open Go.RowKit Go.Maps
set_option maxRecDepth 100000

theorem sumUp_zero {id : Int} : ∀ {L : List Nd}, (∀ n ∈ L, n.2.1 ≠ id) → sumUp id L = 0
  | [], _ => rfl
  | n :: r, h => by
    unfold sumUp
    rw [if_neg (h n (by simp)), sumUp_zero (fun x hx => h x (List.mem_cons_of_mem _ hx))]
    rfl
theorem sumUp_map (id j d : Int) : ∀ (L : List Nd), sumUp id (L.map (setU j d)) = sumUp id L
  | [] => rfl
  | n :: r => by
    rw [List.map_cons]
    unfold sumUp
    rw [sumUp_map id j d r]
    unfold setU
    split <;> rfl
/-- Containers carved one out of the other: the last one, and its quota. -/
structure Deep (L : List Nd) (k hs : Int) : Prop where
  good : GoodU L
  pos : 1 ≤ k
  at_ : ∃ up, atN k L = some (k, up, hs, 0)
  out : ∀ n ∈ L, n.1 ≤ k
  kids : ∀ n ∈ L, n.2.1 < k
end Go.Proofs.YtkenipanpimolaaGreatDoor

/- The contract of layer 11's play: a call on both. Condition: both say the same ahead. Written by gen/gen_u19.py. -/
namespace Go.Proofs.YtkenipanpimolaaGreatDoor
open Go.RowKit Go.Maps
set_option maxRecDepth 100000

/-- The budget and the document's list say the same. -/
structure Pair11 (W w : World) (b : Nat) (v : Value) (L : List Nd) : Prop where
  ob : OB W w b (fun k => v.ownBlock = some k) L
  row : w.ownsRow W.heap.size 96 4 v L.length (ndsV L)
def playL (L : List Nd) (d id up n : Int) : List Nd := if d = 1 then openL L id up n else if d = 2 then closeL L id else if d = 3 then chargeL L id n else if d = 4 then refundL L id n else L
def PlayPostU (W : World) (b : Nat) (L' : List Nd) (e : Ending) (w' : World) : Prop := ∃ v', e = .returned (.tuple #[v', .bool true]) ∧ Pair11 W w' b v' L'
end Go.Proofs.YtkenipanpimolaaGreatDoor

/- Containers as a tree: what calls keep; used and left together. Nothing of a program. -/
namespace Go.Proofs.YtkenipanpimolaaGreatDoor
open Go.RowKit
set_option maxRecDepth 100000

def sumF (f : Nd → Int) : List Nd → Int
  | [] => 0
  | n :: r => f n + sumF f r
theorem sumF_congr {f g : Nd → Int} : ∀ {L : List Nd}, (∀ n ∈ L, f n = g n) → sumF f L = sumF g L
  | [], _ => rfl
  | n :: r, h => by
    unfold sumF
    rw [h n (by simp), sumF_congr (fun x hx => h x (List.mem_cons_of_mem _ hx))]
theorem sumF_sub (f g : Nd → Int) : ∀ (L : List Nd), sumF (fun n => f n - g n) L = sumF f L - sumF g L
  | [] => rfl
  | n :: r => by
    unfold sumF
    rw [sumF_sub f g r]
    omega
theorem sumF_add (f g : Nd → Int) : ∀ (L : List Nd), sumF (fun n => f n + g n) L = sumF f L + sumF g L
  | [] => rfl
  | n :: r => by
    unfold sumF
    rw [sumF_add f g r]
    omega
theorem sumF_zero : ∀ (L : List Nd), sumF (fun _ => 0) L = 0
  | [] => rfl
  | n :: r => by
    unfold sumF
    rw [sumF_zero r]
    rfl
theorem sumF_ones (c v : Int) : ∀ {M : List Nd}, M.Pairwise (fun a b => a.1 < b.1) → sumF (fun n => if c = n.1 then v else 0) M = if (atN c M).isSome = true then v else 0
  | [], _ => rfl
  | n :: r, hp => by
    obtain ⟨h1, h2⟩ := List.pairwise_cons.1 hp
    have ih := sumF_ones c v h2
    unfold sumF
    by_cases e : c = n.1
    · have hn : atN c r = none := atN_none.2 fun x hx => by have := h1 x hx; omega
      rw [hn] at ih
      have hs : atN c (n :: r) = some n := by unfold atN; rw [if_pos e.symm]
      rw [ih, hs]
      simp [e]
    · have hs : atN c (n :: r) = atN c r := by rw [atN, if_neg (fun x => e x.symm)]
      rw [ih, hs, if_neg e]
      omega
theorem sumF_swap {M : List Nd} (hp : M.Pairwise (fun a b => a.1 < b.1)) : ∀ (K : List Nd), sumF (fun n => sumUp n.1 K) M = sumF (fun c => if (atN c.2.1 M).isSome = true then c.2.2.1 else 0) K
  | [] => by simp [sumUp, sumF, sumF_zero]
  | c :: r => by
    unfold sumUp
    rw [sumF_add, sumF_swap hp r, sumF_ones _ _ hp]
    rfl

/-- Containers as a tree, carved from the first one. -/
structure Tree (q : Int) (L : List Nd) : Prop where
  good : GoodU L
  first : ∃ u, atN 1 L = some (1, 0, q, u)
  rank : ∃ r : Int → Nat, ∀ n ∈ L, n.1 ≠ 1 → (∃ x, atN n.2.1 L = some x) ∧ r n.2.1 < r n.1
  left : ∀ n ∈ L, 0 ≤ leftNU L n
theorem Tree.one {q : Int} (h : 0 ≤ q ∧ q ≤ 65536) : Tree q [(1, 0, q, 0)] := by
  refine ⟨GoodU.one q h.1 h.2, ⟨0, rfl⟩, ⟨fun _ => 0, fun n hn => ?_⟩, fun n hn => ?_⟩
  · simp only [List.mem_singleton] at hn
    subst hn
    intro h
    exact absurd rfl h
  · simp only [List.mem_singleton] at hn
    subst hn
    simp [leftNU, sumUp]
    omega
/-- Who is carved from one is carved from one that is there. -/
theorem Tree.noUp {q : Int} {L : List Nd} (h : Tree q L) {id : Int} (h1 : 1 ≤ id) (hn : atN id L = none) : ∀ n ∈ L, n.2.1 ≠ id := fun n hm e => by
  obtain ⟨r, hr⟩ := h.rank
  by_cases c : n.1 = 1
  · obtain ⟨u, hu⟩ := h.first
    have := atN_mem h.good.up hm
    rw [c, hu] at this
    cases this
    simp only at e
    omega
  · obtain ⟨⟨x, hx⟩, _⟩ := hr n hm c
    rw [e, hn] at hx
    cases hx
/-- Used and left together. -/
theorem Tree.total {q : Int} {L : List Nd} (h : Tree q L) : sumF (fun n => n.2.2.2 + leftNU L n) L = q := by
  obtain ⟨r, hr⟩ := h.rank
  obtain ⟨u, hu⟩ := h.first
  have e1 : sumF (fun n => n.2.2.2 + leftNU L n) L = sumF (fun n => n.2.2.1 - sumUp n.1 L) L := sumF_congr fun n _ => by unfold leftNU; omega
  rw [e1, sumF_sub, sumF_swap h.good.up, ← sumF_sub]
  have e2 : sumF (fun n => n.2.2.1 - if (atN n.2.1 L).isSome = true then n.2.2.1 else 0) L = sumF (fun n => if (1 : Int) = n.1 then q else 0) L := sumF_congr fun n hm => by
    by_cases c : n.1 = 1
    · have hn := atN_mem h.good.up hm
      rw [c, hu] at hn
      cases hn
      have h0 : atN 0 L = none := atN_none.2 fun x hx => by have := (h.good.ok x hx).1; omega
      simp [h0]
    · obtain ⟨⟨x, hx⟩, _⟩ := hr n hm c
      rw [hx, if_neg (show ¬ (1 : Int) = n.1 from fun e => c e.symm)]
      simp
  rw [e2, sumF_ones _ _ h.good.up, hu]
  rfl
theorem Tree.open {q : Int} {L : List Nd} (h : Tree q L) (id up n : Int) : Tree q (openL L id up n) := by
  by_cases he : openEU L id up n = 0
  · have hg := h.good.open id up n
    obtain ⟨⟨hf1, hf2⟩, ⟨nu, hnu⟩, hno, hle⟩ := openEU_zero.1 he
    have hol : openL L id up n = insN (id, up, n, 0) L := by unfold openL; rw [if_pos he]
    rw [hol] at hg ⊢
    have hne := atN_none.1 hno
    have b1 := fitB_iff.1 hf1
    obtain ⟨u, hu⟩ := h.first
    obtain ⟨r, hr⟩ := h.rank
    have hid1 : (1 : Int) ≠ id := fun e => by rw [← e, hu] at hno; cases hno
    have hupid : up ≠ id := fun e => by rw [e, hno] at hnu; cases hnu
    have hno2 := h.noUp b1.1.1 hno
    have at_ : ∀ i x, atN i L = some x → atN i (insN (id, up, n, 0) L) = some x := fun i x hx => by
      rw [atN_insN hne, if_neg (show i ≠ id from fun e => by rw [e, hno] at hx; cases hx), hx]
    refine ⟨hg, ⟨u, at_ _ _ hu⟩, ⟨fun i => if i = id then r up + 1 else r i, fun m hm h1 => ?_⟩, fun m hm => ?_⟩
    · rcases mem_insN.1 hm with rfl | hm
      · refine ⟨⟨nu, at_ _ _ hnu⟩, ?_⟩
        simp only
        rw [if_neg hupid, if_pos trivial]
        omega
      · obtain ⟨⟨x, hx⟩, hlt⟩ := hr m hm h1
        refine ⟨⟨x, at_ _ _ hx⟩, ?_⟩
        simp only
        rw [if_neg (hno2 m hm), if_neg (hne m hm)]
        exact hlt
    · unfold leftNU
      rw [sumUp_insN]
      rcases mem_insN.1 hm with rfl | hm
      · simp only
        rw [if_neg hupid, sumUp_zero hno2]
        omega
      · have h0 := h.left m hm
        unfold leftNU at h0
        simp only
        split
        · rename_i e
          have := atN_mem h.good.up hm
          rw [← e] at this
          rw [leftL_some this, e] at hle
          omega
        · omega
  · unfold openL
    rw [if_neg he]
    exact h
theorem Tree.setU {q : Int} {L : List Nd} (h : Tree q L) {id d : Int} (hg : GoodU (L.map (setU id d))) (hl : ∀ x, atN id L = some x → d ≤ leftL L id) : Tree q (L.map (setU id d)) := by
  obtain ⟨u, hu⟩ := h.first
  obtain ⟨r, hr⟩ := h.rank
  have at_ : ∀ i x, atN i L = some x → atN i (L.map (Go.Proofs.YtkenipanpimolaaGreatDoor.setU id d)) = some (Go.Proofs.YtkenipanpimolaaGreatDoor.setU id d x) := fun i x hx => by
    rw [atN_map (setU_id _ _), hx]
    rfl
  have hup : ∀ m : Nd, (Go.Proofs.YtkenipanpimolaaGreatDoor.setU id d m).2.1 = m.2.1 := fun m => by unfold Go.Proofs.YtkenipanpimolaaGreatDoor.setU; split <;> rfl
  refine ⟨hg, ?_, ⟨r, fun m' hm' hm1 => ?_⟩, fun m' hm' => ?_⟩
  · by_cases e : (1 : Int) = id
    · exact ⟨u + d, by rw [at_ _ _ hu]; unfold Go.Proofs.YtkenipanpimolaaGreatDoor.setU; rw [if_pos e]⟩
    · exact ⟨u, by rw [at_ _ _ hu]; unfold Go.Proofs.YtkenipanpimolaaGreatDoor.setU; rw [if_neg e]⟩
  · obtain ⟨m, hm, rfl⟩ := List.mem_map.1 hm'
    rw [setU_id] at hm1 ⊢
    rw [hup]
    obtain ⟨⟨x, hx⟩, hl2⟩ := hr m hm hm1
    exact ⟨⟨_, at_ _ _ hx⟩, hl2⟩
  · obtain ⟨m, hm, rfl⟩ := List.mem_map.1 hm'
    have h0 := h.left m hm
    unfold leftNU at h0 ⊢
    rw [setU_id, sumUp_map]
    unfold Go.Proofs.YtkenipanpimolaaGreatDoor.setU
    split
    · rename_i e
      have := atN_mem h.good.up hm
      rw [e] at this
      have h3 := hl _ this
      rw [leftL_some this] at h3
      rw [e] at h0 ⊢
      simp only
      omega
    · exact h0
theorem Tree.charge {q : Int} {L : List Nd} (h : Tree q L) (id n : Int) : Tree q (chargeL L id n) := by
  have hg := h.good.charge id n
  by_cases he : chargeEU L id n = 0
  · have hcl : chargeL L id n = L.map (Go.Proofs.YtkenipanpimolaaGreatDoor.setU id n) := by unfold chargeL; rw [if_pos he]
    rw [hcl] at hg ⊢
    exact h.setU hg fun _ _ => (chargeEU_zero.1 he).2.2
  · unfold chargeL
    rw [if_neg he]
    exact h
theorem Tree.leftL {q : Int} {L : List Nd} (h : Tree q L) (id : Int) : 0 ≤ leftL L id := by
  unfold Go.Proofs.YtkenipanpimolaaGreatDoor.leftL
  cases e : atN id L with
  | none => exact Int.le_refl _
  | some x => exact h.left x (atN_some e).1
end Go.Proofs.YtkenipanpimolaaGreatDoor
