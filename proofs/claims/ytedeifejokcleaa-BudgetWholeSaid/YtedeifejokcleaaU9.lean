/- Containers as slices; the contracts of the document's fits, At, Left, Same, New of layer 11. Condition: the slices lie in memory. -/
import Derived.Test.YtedeifejokcleaaU8
namespace Go.Proofs.Ytedeifejokcleaa
open Go.RowKit Go.Maps
set_option maxRecDepth 100000

/-- A slice of containers. -/
def NdsAt (w : World) (v : Value) (L : List Nd) : Prop := ∃ a c, v = .slice a L.length c ∧ (L = [] ∨ ∃ b, a = some ⟨b, 0, none⟩ ∧ b < w.heap.size ∧ ∀ i, i < L.length →
  w.cell? ⟨b, i * 4, none⟩ = some (.int .i64 (L.getD i default).1) ∧ w.cell? ⟨b, i * 4 + 1, none⟩ = some (.int .i64 (L.getD i default).2.1) ∧ w.cell? ⟨b, i * 4 + 2, none⟩ = some (.int .i64 (L.getD i default).2.2.1) ∧ w.cell? ⟨b, i * 4 + 3, none⟩ = some (.int .i64 (L.getD i default).2.2.2))
theorem NdsAt.below {w w' : World} {v : Value} {L : List Nd} (h : NdsAt w v L) (hb : Below w.heap.size w w') : NdsAt w' v L := by
  obtain ⟨a, c, rfl, h⟩ := h
  refine ⟨a, c, rfl, h.imp id fun ⟨b, e, hlt, hc⟩ => ⟨b, e, Nat.lt_of_lt_of_le hlt hb.size, fun i hi => ?_⟩⟩
  obtain ⟨c0, c1, c2, c3⟩ := hc i hi
  have k : ∀ q, w'.cell? ⟨b, q, none⟩ = w.cell? ⟨b, q, none⟩ := fun q => hb.cell (p := ⟨b, q, none⟩) hlt
  exact ⟨(k _).trans c0, (k _).trans c1, (k _).trans c2, (k _).trans c3⟩
theorem NdsAt.of_row {w : World} {base : Nat} {v : Value} {L : List Nd} (h : w.ownsRow base 49 4 v L.length (ndsV L)) : NdsAt w v L := by
  have h' := h
  rcases h.2 with ⟨rfl, h0⟩ | ⟨g, cap, cur, rfl, hb, hgg, _⟩
  · exact ⟨none, 0, by rw [h0], Or.inl (List.eq_nil_of_length_eq_zero h0)⟩
  · refine ⟨_, _, rfl, Or.inr ⟨g, rfl, lt_of_block hgg, fun i hi => ?_⟩⟩
    obtain ⟨a0, a1, a2, a3⟩ := ndsV_get L i hi
    have b0 := h'.cells (g := g) rfl _ _ a0
    have b1 := h'.cells (g := g) rfl _ _ a1
    have b2 := h'.cells (g := g) rfl _ _ a2
    have b3 := h'.cells (g := g) rfl _ _ a3
    rw [Addr.add_mid, Nat.zero_add] at b0 b1 b2 b3
    exact ⟨b0, b1, b2, b3⟩
/-- One of them. -/
theorem NdsAt.at_ {w : World} {a : Option Addr} {n c : Nat} {L : List Nd} (h : NdsAt w (.slice a n c) L) {i : Nat} (hi : i < L.length) {x : Nd} (hx : L.getD i default = x) :
    ∃ b, a = some ⟨b, 0, none⟩ ∧ b < w.heap.size ∧ w.cell? ⟨b, i * 4, none⟩ = some (.int .i64 x.1) ∧ w.cell? ⟨b, i * 4 + 1, none⟩ = some (.int .i64 x.2.1) ∧ w.cell? ⟨b, i * 4 + 2, none⟩ = some (.int .i64 x.2.2.1) ∧ w.cell? ⟨b, i * 4 + 3, none⟩ = some (.int .i64 x.2.2.2) := by
  obtain ⟨a', c', he, h⟩ := h
  injection he with e1
  subst e1 hx
  rcases h with rfl | ⟨b, rfl, hb, hc⟩
  · simp at hi
  · exact ⟨b, rfl, hb, hc i hi⟩
theorem NdsAt.form {w : World} {v : Value} {L : List Nd} (h : NdsAt w v L) : ∃ a c, v = .slice a L.length c := by
  obtain ⟨a, c, e, _⟩ := h
  exact ⟨a, c, e⟩

theorem fits11 (id n : Int) (w : World) {f : Bool} (hf : fitB id n = f) : Calls Try.prog 35 #[.int .i64 id, .int .i64 n] w fun e w' => e = .returned (.bool f) ∧ w = w' := by
  by_cases h1 : 1 ≤ id
  · by_cases h2 : id ≤ 8
    · by_cases h3 : 0 ≤ n
      · by_cases h4 : n ≤ 65536
        · obtain rfl : true = f := by rw [← hf, eq_comm, fitB_iff]; omega
          clear hf
          go_enter Try.func35, Try.ntmps35
          go_wp2
          go_ret
          exact ⟨rfl, rfl⟩
        · obtain rfl : false = f := by rw [← hf, eq_comm, Bool.eq_false_iff, Ne, fitB_iff]; omega
          clear hf
          go_enter Try.func35, Try.ntmps35
          go_wp2
          go_ret
          exact ⟨rfl, rfl⟩
      · obtain rfl : false = f := by rw [← hf, eq_comm, Bool.eq_false_iff, Ne, fitB_iff]; omega
        clear hf
        go_enter Try.func35, Try.ntmps35
        go_wp2
        go_ret
        exact ⟨rfl, rfl⟩
    · obtain rfl : false = f := by rw [← hf, eq_comm, Bool.eq_false_iff, Ne, fitB_iff]; omega
      clear hf
      go_enter Try.func35, Try.ntmps35
      go_wp2
      go_ret
      exact ⟨rfl, rfl⟩
  · obtain rfl : false = f := by rw [← hf, eq_comm, Bool.eq_false_iff, Ne, fitB_iff]; omega
    clear hf
    go_enter Try.func35, Try.ntmps35
    go_wp2
    go_ret
    exact ⟨rfl, rfl⟩

/-- Where a container is; -1: it is not there. -/
def atI (L : List Nd) (id : Int) : Int := if atN id L = none then -1 else (posN id L : Int)
theorem atI_none {L : List Nd} {id : Int} (h : atN id L = none) : atI L id = -1 := by unfold atI; rw [if_pos h]
theorem atI_some {L : List Nd} {id : Int} {x : Nd} (h : atN id L = some x) : atI L id = (posN id L : Int) := by unfold atI; rw [if_neg (by rw [h]; simp)]
set_option maxHeartbeats 1000000 in
theorem rat11 (L : List Nd) (v : Value) (id : Int) (w : World) (hl : L.length ≤ 1000) (h : NdsAt w v L) {k : Int} (hk : atI L id = k) :
    Calls Try.prog 21 #[v, .int .i64 id] w fun e w' => e = .returned (.int .i64 k) ∧ w = w' := by
  have H := Lib.hid h
  obtain ⟨a, c, rfl⟩ := h.form
  obtain ⟨n, hn⟩ : ∃ n, n = L.length := ⟨_, rfl⟩
  rw [← hn] at hl
  have HN := Lib.hid hn
  have HK := Lib.hid hk
  rw [← hn] at H ⊢
  clear hk hn h
  go_enter Try.func21, Try.ntmps21
  go_wp2_with fail
  go_loopw [5] (fun i wr => ∃ j : Nat, i = .int .i64 (j : Int) ∧ j ≤ n ∧ wr = w ∧ ∀ i, i < j → (L.getD i default).1 ≠ id) (fun i _ => (n - (intOf i).toNat))
  case atStart => exact ⟨0, rfl, Nat.zero_le _, rfl, fun i hi => absurd hi (Nat.not_lt_zero _)⟩
  case round =>
    obtain ⟨j, rfl, hj, rfl, hlow⟩ := hrel
    have LOW := Lib.hid hlow
    clear hlow
    by_cases hlt : j < n
    · have hjl : j < L.length := by rw [← HN.out]; exact hlt
      obtain ⟨⟨y, y1, y2, y3⟩, hy⟩ : ∃ y, L.getD j default = y := ⟨_, rfl⟩
      obtain ⟨b, rfl, hbl, c0, -, -, -⟩ := H.out.at_ hjl hy
      simp only at c0
      by_cases he : y = id
      · have d0 : (y == id) = true := by simpa using he
        have hp := pos_of hjl LOW.out (by rw [hy]; exact he)
        obtain rfl : k = (j : Int) := by rw [← HK.out, atI_some hp.1, hp.2]
        clear hp hy
        go_wp2_with fail
        go_ret
        exact ⟨rfl, rfl⟩
      · have d0 : (y == id) = false := by simpa using he
        have LOW2 : Hid (∀ i, i < j + 1 → (L.getD i default).1 ≠ id) := Lib.hid fun i hi => by
          by_cases e : i = j
          · rw [e, hy]; exact he
          · exact LOW.out i (by omega)
        clear hy
        go_wp2_with fail
        go_roundw
        case rel => exact ⟨j + 1, by go_num, by omega, by trivial, LOW2.out⟩
        case measure => simp [intOf]; omega
    · obtain rfl : j = n := by omega
      obtain rfl : k = -1 := by rw [← HK.out]; exact atI_none (none_of (by rw [← HN.out]; exact LOW.out))
      clear hlt
      go_wp2
      go_ret
      exact ⟨rfl, rfl⟩
theorem sumUp_snoc (id : Int) {L : List Nd} {j : Nat} (h : j < L.length) : sumUp id (L.take (j + 1)) = sumUp id (L.take j) + (if (L.getD j default).2.1 = id then (L.getD j default).2.2.1 else 0) := by
  rw [take_snoc h, sumUp_append]; simp [sumUp]
theorem sumUp_part (id : Int) {L : List Nd} (h : Good L) (j : Nat) : 0 ≤ sumUp id (L.take j) ∧ sumUp id (L.take j) ≤ 524288 := by
  have h1 := sumUp_bounds id (L := L.take j) (fun n hn => h.ok n (List.mem_of_mem_take hn))
  have h2 : (L.take j).length ≤ 8 := Nat.le_trans (List.length_take_le' _ _) h.len
  omega
set_option maxHeartbeats 1000000 in
theorem rleft11 (L : List Nd) (v : Value) (id : Int) (w : World) (hg : Good L) (h : NdsAt w v L) {d : Int} (hd : leftL L id = d) :
    Calls Try.prog 14 #[v, .int .i64 id] w fun e w' => e = .returned (.int .i64 d) ∧ Below w.heap.size w w' := by
  have H := Lib.hid h
  obtain ⟨a, c, rfl⟩ := h.form
  obtain ⟨n, hn⟩ : ∃ n, n = L.length := ⟨_, rfl⟩
  have hl : n ≤ 8 := by rw [hn]; exact hg.len
  have HN := Lib.hid hn
  rw [← hn] at H ⊢
  have HG := Lib.hid hg
  clear hg h
  cases ha : atN id L with
  | none =>
    obtain rfl : d = 0 := by rw [← hd]; unfold leftL; rw [ha]; rfl
    have AT := Lib.hid (rat11 L _ id w (by omega) H.out (atI_none ha))
    clear ha hd hn
    go_enter Try.func14, Try.ntmps14
    go_wp2_with fail
    refine AT.out.mono ?_
    rintro e w' ⟨rfl, rfl⟩
    go_wp2
    go_ret
    exact ⟨rfl, Below.refl _ _⟩
  | some x =>
    have AT := Lib.hid (rat11 L _ id w (by omega) H.out (atI_some ha))
    obtain ⟨hpl, hpx⟩ := pos_at ha
    have hok := HG.out.ok x (atN_some ha).1
    obtain ⟨k, hk⟩ : ∃ k, posN id L = k := ⟨_, rfl⟩
    rw [hk] at AT hpl hpx
    have hdx : d = x.2.2.1 - x.2.2.2 - sumUp id L := by rw [← hd, leftL_some ha]
    have HD := Lib.hid hdx
    have hkn : k < n := by omega
    obtain ⟨⟨x0, x1, x2, x3⟩, hx⟩ : ∃ y, x = y := ⟨_, rfl⟩
    subst hx
    obtain ⟨b, rfl, hbl, -, -, c2, c3⟩ := H.out.at_ hpl hpx
    simp only at c2 c3
    dsimp only [okN] at hok
    have HB : Hid (∀ V, Below w.heap.size w V → NdsAt V (.slice (some ⟨b, 0, none⟩) n c) L) := Lib.hid fun V hV => H.out.below hV
    have hw : IntKind.i64.wrap (x2 - x3) = x2 - x3 := IntWalk.i64_in _ (by omega)
    have hb2 := sumUp_part id HG.out
    have SP := Lib.hid hb2
    clear ha hd hdx hk hn hpl hpx hb2
    go_enter Try.func14, Try.ntmps14
    go_wp2_with fail
    refine AT.out.mono ?_
    rintro e w' ⟨rfl, rfl⟩
    go_wp2_with fail
    go_quiet (fail)
    clear c2 c3
    go_wp2_with fail
    go_loopw [6, 7] (fun s i wr => ∃ j : Nat, i = .int .i64 (j : Int) ∧ s = .int .i64 (x2 - x3 - sumUp id (L.take j)) ∧ j ≤ n ∧ Below w.heap.size w wr) (fun _ i _ => (n - (intOf i).toNat))
    case atStart => exact ⟨0, rfl, by simp [sumUp], Nat.zero_le _, below_drewN (Below.refl _ _) _⟩
    case round =>
      obtain ⟨j, rfl, rfl, hj, hB⟩ := hrel
      have BB := Lib.hid hB
      clear hB
      by_cases hlt : j < n
      · have hjl : j < L.length := by rw [← HN.out]; exact hlt
        obtain ⟨⟨y0, y1, y2, y3⟩, hy⟩ : ∃ y, L.getD j default = y := ⟨_, rfl⟩
        obtain ⟨b', hbb, hbl', -, g1, g2, -⟩ := (HB.out wr BB.out).at_ hjl hy
        obtain rfl : b = b' := by simpa using hbb
        have hok2 := HG.out.ok _ (getD_memN hjl)
        rw [hy] at hok2
        simp only at g1 g2
        dsimp only [okN] at hok2
        have hs := SP.out j
        have hsn := sumUp_snoc id hjl
        rw [hy] at hsn
        simp only at hsn
        obtain ⟨s0, hs0⟩ : ∃ s0, x2 - x3 - sumUp id (L.take j) = s0 := ⟨_, rfl⟩
        have hs0b : -1000000 ≤ s0 ∧ s0 ≤ 65536 := by omega
        have hw2 : IntKind.i64.wrap (s0 - y2) = s0 - y2 := IntWalk.i64_in _ (by omega)
        by_cases he : y1 = id
        · have d0 : (y1 == id) = true := by simpa using he
          rw [if_pos he] at hsn
          have SN : Hid (x2 - x3 - sumUp id (L.take (j + 1)) = s0 - y2) := Lib.hid (by omega)
          rw [hs0]
          clear hsn hs hs0 hy hbb
          go_wp2_with fail
          go_roundw
          case rel => exact ⟨j + 1, by go_num, by rw [SN.out], by omega, BB.out⟩
          case measure => simp [intOf]; omega
        · have d0 : (y1 == id) = false := by simpa using he
          rw [if_neg he] at hsn
          have SN : Hid (x2 - x3 - sumUp id (L.take (j + 1)) = s0) := Lib.hid (by omega)
          rw [hs0]
          clear hsn hs hs0 hy hbb
          go_wp2_with fail
          go_roundw
          case rel => exact ⟨j + 1, by go_num, by rw [SN.out], by omega, BB.out⟩
          case measure => simp [intOf]; omega
      · obtain rfl : j = n := by omega
        have e : x2 - x3 - sumUp id (L.take j) = d := by rw [HD.out, HN.out, List.take_length]
        rw [e]
        clear hlt e
        go_wp2
        go_ret
        exact ⟨rfl, BB.out⟩
set_option maxHeartbeats 2000000 in
theorem same11 (l : List Nd) (u v : Value) (w : World) (hl : l.length ≤ 1000) (hu : NdsAt w u l) (hv : NdsAt w v l) : Calls Try.prog 15 #[u, v] w fun e w' => e = .returned (.bool true) ∧ Below w.heap.size w w' := by
  obtain ⟨a, c, rfl, hU⟩ := hu
  obtain ⟨a', c', rfl, hV⟩ := hv
  obtain ⟨n, hn⟩ : ∃ n, n = l.length := ⟨_, rfl⟩
  rw [← hn] at hl ⊢
  have HN := Lib.hid hn
  have HU := Lib.hid hU
  have HV := Lib.hid hV
  clear hn hU hV
  go_enter Try.func15, Try.ntmps15
  go_wp2_with fail
  go_loopw [5] (fun i wr => ∃ j : Nat, i = .int .i64 (j : Int) ∧ j ≤ n ∧ Below w.heap.size w wr) (fun i _ => (n - (intOf i).toNat))
  case atStart => exact ⟨0, rfl, Nat.zero_le _, Below.refl _ _⟩
  case round =>
    obtain ⟨j, rfl, hj, hB⟩ := hrel
    have BB := Lib.hid hB
    clear hB
    by_cases hlt : j < n
    · have hjl : j < l.length := by rw [← HN.out]; exact hlt
      obtain ⟨b, rfl, hbl, hc⟩ := HU.out.resolve_left (by rintro rfl; simp at hjl)
      obtain ⟨b', rfl, hbl', hc'⟩ := HV.out.resolve_left (by rintro rfl; simp at hjl)
      have hcj := hc j hjl
      have hcj' := hc' j hjl
      obtain ⟨⟨e0, e1, e2, e3⟩, hy⟩ : ∃ y, y = l.getD j default := ⟨_, rfl⟩
      rw [← hy] at hcj hcj'
      simp only at hcj hcj'
      have CB : Hid (∀ w', Below w.heap.size w w' → (w'.cell? ⟨b, j * 4, none⟩ = some (.int .i64 e0) ∧ w'.cell? ⟨b, j * 4 + 1, none⟩ = some (.int .i64 e1) ∧ w'.cell? ⟨b, j * 4 + 2, none⟩ = some (.int .i64 e2) ∧ w'.cell? ⟨b, j * 4 + 3, none⟩ = some (.int .i64 e3)) ∧ (w'.cell? ⟨b', j * 4, none⟩ = some (.int .i64 e0) ∧ w'.cell? ⟨b', j * 4 + 1, none⟩ = some (.int .i64 e1) ∧ w'.cell? ⟨b', j * 4 + 2, none⟩ = some (.int .i64 e2) ∧ w'.cell? ⟨b', j * 4 + 3, none⟩ = some (.int .i64 e3))) := Lib.hid fun w' hb => by
        have k : ∀ q, w'.cell? ⟨b, q, none⟩ = w.cell? ⟨b, q, none⟩ := fun q => hb.cell (p := ⟨b, q, none⟩) hbl
        have k' : ∀ q, w'.cell? ⟨b', q, none⟩ = w.cell? ⟨b', q, none⟩ := fun q => hb.cell (p := ⟨b', q, none⟩) hbl'
        exact ⟨⟨(k _).trans hcj.1, (k _).trans hcj.2.1, (k _).trans hcj.2.2.1, (k _).trans hcj.2.2.2⟩, (k' _).trans hcj'.1, (k' _).trans hcj'.2.1, (k' _).trans hcj'.2.2.1, (k' _).trans hcj'.2.2.2⟩
      obtain ⟨⟨q0, q1, q2, q3⟩, r0, r1, r2, r3⟩ := CB.out wr BB.out
      clear hc hc' hcj hcj' hy
      go_wp2_with fail
      go_region_held3 (fun w' => (w'.cell? ⟨b, j * 4, none⟩ = some (.int .i64 e0) ∧ w'.cell? ⟨b, j * 4 + 1, none⟩ = some (.int .i64 e1) ∧ w'.cell? ⟨b, j * 4 + 2, none⟩ = some (.int .i64 e2) ∧ w'.cell? ⟨b, j * 4 + 3, none⟩ = some (.int .i64 e3)) ∧ (w'.cell? ⟨b', j * 4, none⟩ = some (.int .i64 e0) ∧ w'.cell? ⟨b', j * 4 + 1, none⟩ = some (.int .i64 e1) ∧ w'.cell? ⟨b', j * 4 + 2, none⟩ = some (.int .i64 e2) ∧ w'.cell? ⟨b', j * 4 + 3, none⟩ = some (.int .i64 e3))) (go_keep) (fail)
      all_goals
        go_wp2_with fail
        go_roundw
        case rel => exact ⟨j + 1, by go_num, by omega, BB.out.drew⟩
        case measure => simp [intOf]; omega
    · obtain rfl : j = n := by omega
      go_wp2
      go_ret
      exact ⟨rfl, BB.out⟩
/-- The document's New. -/
theorem rnew11_bad (q : Int) (w : World) (h : numB q = false) : Calls Try.prog 11 #[.int .i64 q] w fun e w' => e = .returned (.tuple #[.slice none 0 0, .int .i64 2]) ∧ w = w' := by
  have h' : ¬ (0 ≤ q ∧ q ≤ 65536) := by simpa [numB] using h
  by_cases h0 : q < 0
  · clear h h'
    go_enter Try.func11, Try.ntmps11
    go_wp2
    go_ret2
    exact ⟨rfl, rfl⟩
  · have h1 : 65536 < q := by omega
    clear h h'
    go_enter Try.func11, Try.ntmps11
    go_wp2
    go_ret2
    exact ⟨rfl, rfl⟩
theorem rnew11_ok (q : Int) (w : World) (h : numB q = true) : Calls Try.prog 11 #[.int .i64 q] w fun e w' => ∃ v, e = .returned (.tuple #[v, .int .i64 0]) ∧ w'.ownsRow w.heap.size 49 4 v 1 (ndsV [(1, 0, q, 0)]) ∧ Below w.heap.size w w' := by
  have h' : 0 ≤ q ∧ q ≤ 65536 := by simpa [numB] using h
  have OW := Lib.hid (World.ownsRow_lit (base := w.heap.size) (e := 49) (size := 4) w #[.int .i64 1, .int .i64 0, .int .i64 q, .int .i64 0] 1 (Nat.le_refl _) (by decide) rfl)
  clear h
  go_enter Try.func11, Try.ntmps11
  go_wp2
  go_ret2
  exact ⟨_, rfl, OW.out, (Below.refl _ _).alloc (Nat.le_refl _) _⟩
end Go.Proofs.Ytedeifejokcleaa
