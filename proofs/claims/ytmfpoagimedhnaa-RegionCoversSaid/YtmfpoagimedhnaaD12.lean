/- The contracts of the document's Pages, Same of layer 14. Condition: the slices lie in memory. -/
import Derived.Test.YtmfpoagimedhnaaD11
namespace Go.Proofs.Ytmfpoagimedhnaa
open Go.RowKit Go.Maps
set_option maxRecDepth 100000

set_option maxHeartbeats 2000000 in
theorem sameD (l : List Ar) (u v : Value) (w : World) (hu : ArAt w u l) (hv : ArAt w v l) : Calls Try.prog 21 #[u, v] w fun e w' => e = .returned (.bool true) ∧ Below w.heap.size w w' := by
  have hl := hu.len
  obtain ⟨a, c, rfl⟩ := hu.form
  obtain ⟨a', c', rfl⟩ := hv.form
  obtain ⟨n, hn⟩ : ∃ n, n = l.length := ⟨_, rfl⟩
  rw [← hn] at hl hu hv ⊢
  have HN := Lib.hid hn
  have HU := Lib.hid hu
  have HV := Lib.hid hv
  clear hn hu hv
  go_enter Try.func21, Try.ntmps21
  go_wp2_with fail
  go_loopw [5] (fun i wr => ∃ j : Nat, i = .int .i64 (j : Int) ∧ j ≤ n ∧ Below w.heap.size w wr) (fun i _ => (n - (intOf i).toNat))
  case atStart => exact ⟨0, rfl, Nat.zero_le _, Below.refl _ _⟩
  case round =>
    obtain ⟨j, rfl, hj, hB⟩ := hrel
    have BB := Lib.hid hB
    clear hB
    by_cases hlt : j < n
    · have hjl : j < l.length := by rw [← HN.out]; exact hlt
      obtain ⟨⟨e0, e1, e2⟩, hy⟩ : ∃ y, l.getD j default = y := ⟨_, rfl⟩
      obtain ⟨b, o, rfl, hbl, -, q0, q1, q2⟩ := HU.out.at_ hjl hy
      obtain ⟨b', o', rfl, hbl', -, r0, r1, r2⟩ := HV.out.at_ hjl hy
      simp only at q0 q1 q2 r0 r1 r2
      have CB : Hid (∀ w', Below w.heap.size w w' → (w'.cell? ⟨b, o + j * 3, none⟩ = some (.int .i64 e0) ∧ w'.cell? ⟨b, o + j * 3 + 1, none⟩ = some (.int .i64 e1) ∧ w'.cell? ⟨b, o + j * 3 + 2, none⟩ = some (.bool e2)) ∧ (w'.cell? ⟨b', o' + j * 3, none⟩ = some (.int .i64 e0) ∧ w'.cell? ⟨b', o' + j * 3 + 1, none⟩ = some (.int .i64 e1) ∧ w'.cell? ⟨b', o' + j * 3 + 2, none⟩ = some (.bool e2))) := Lib.hid fun w' hb => by
        have k : ∀ q, w'.cell? ⟨b, q, none⟩ = w.cell? ⟨b, q, none⟩ := fun q => hb.cell (p := ⟨b, q, none⟩) hbl
        have k' : ∀ q, w'.cell? ⟨b', q, none⟩ = w.cell? ⟨b', q, none⟩ := fun q => hb.cell (p := ⟨b', q, none⟩) hbl'
        exact ⟨⟨(k _).trans q0, (k _).trans q1, (k _).trans q2⟩, (k' _).trans r0, (k' _).trans r1, (k' _).trans r2⟩
      clear q0 q1 q2 r0 r1 r2 hy
      obtain ⟨⟨q0, q1, q2⟩, r0, r1, r2⟩ := CB.out wr BB.out
      go_wp2_with fail
      go_region_held3 (fun w' => (w'.cell? ⟨b, o + j * 3, none⟩ = some (.int .i64 e0) ∧ w'.cell? ⟨b, o + j * 3 + 1, none⟩ = some (.int .i64 e1) ∧ w'.cell? ⟨b, o + j * 3 + 2, none⟩ = some (.bool e2)) ∧ (w'.cell? ⟨b', o' + j * 3, none⟩ = some (.int .i64 e0) ∧ w'.cell? ⟨b', o' + j * 3 + 1, none⟩ = some (.int .i64 e1) ∧ w'.cell? ⟨b', o' + j * 3 + 2, none⟩ = some (.bool e2))) (go_keep) (fail)
      all_goals
        go_wp2_with fail
        go_roundw
        case rel => exact ⟨j + 1, by go_num, by omega, BB.out.drew⟩
        case measure => simp [intOf]; omega
    · obtain rfl : j = n := by omega
      go_wp2
      go_ret
      exact ⟨rfl, BB.out⟩
theorem sum_takeD (L : List Ar) (j : Nat) (h : j < L.length) : sumD (L.take (j + 1)) = sumD (L.take j) + (L.getD j default).2.1 := by
  induction L generalizing j with
  | nil => simp at h
  | cons x r ih =>
    cases j with
    | zero => simp [sumD]
    | succ j =>
      have := ih j (by simpa using h)
      simp only [List.take_succ_cons, sumD, List.getD_cons_succ] at this ⊢
      omega
theorem sum_bound {L : List Ar} (up : UpD L) (j : Nat) : 0 ≤ sumD (L.take j) ∧ sumD (L.take j) ≤ 1024 := by
  have u := up.sub (List.take_sublist j L)
  rw [← pages_sum u]
  exact cntD_le _ _ _
set_option maxHeartbeats 2000000 in
theorem rpages_okD (L : List Ar) (v : Value) (w : World) (h : ArAt w v L) {k : Int} (hk : PagesD L k) : Calls Try.prog 18 #[v] w fun e w' => e = .returned (.int .i64 k) ∧ Below w.heap.size w w' := by
  have hl := h.len
  obtain ⟨a, c, rfl⟩ := h.form
  obtain ⟨n, hn⟩ : ∃ n, n = L.length := ⟨_, rfl⟩
  obtain ⟨q, hq⟩ := chk_ex L
  have CK := Lib.hid (fun V (hV : ArAt V (.slice a L.length c) L) => rcheck_okD L _ V hV hq)
  rw [← hn] at hl h CK ⊢
  have H := Lib.hid h
  have HN := Lib.hid hn
  have HK := Lib.hid hk
  clear hn h hk
  rcases hq with ⟨hg, rfl⟩ | ⟨hg, rfl⟩
  · have HS : Hid (k = sumD L) := Lib.hid (by rcases HK.out with ⟨_, e⟩ | ⟨n, _⟩; exact e.trans (pages_sum hg.up); exact absurd hg n)
    have UP := Lib.hid hg.up
    clear HK hg
    go_enter Try.func18, Try.ntmps18
    go_wp2_with fail
    go_loopw [3, 4] (fun s i wr => ∃ j : Nat, i = .int .i64 (j : Int) ∧ j ≤ n ∧ Below w.heap.size w wr ∧ s = .int .i64 (sumD (L.take j))) (fun _ i _ => (n - (intOf i).toNat))
    case atStart => exact ⟨0, rfl, Nat.zero_le _, Below.refl _ _, rfl⟩
    case round =>
      obtain ⟨j, rfl, hj, hB, rfl⟩ := hrel
      have B := Lib.hid hB
      clear hB
      by_cases hlt : j < n
      · have hjl : j < L.length := by rw [← HN.out]; exact hlt
        obtain ⟨⟨x, y, b⟩, hy⟩ : ∃ y, L.getD j default = y := ⟨_, rfl⟩
        have hs := sum_takeD L j hjl
        have hb0 := sum_bound UP.out j
        have hb1 := sum_bound UP.out (j + 1)
        rw [hy] at hs
        simp only at hs
        have CC : Hid (∀ V, Below w.heap.size w V → ∃ b o, a = some ⟨b, o, none⟩ ∧ V.cell? ⟨b, o + j * 3 + 1, none⟩ = some (.int .i64 y)) := Lib.hid fun V hV => by
          obtain ⟨b, o, e, -, -, -, c1, -⟩ := (H.out.below hV).at_ hjl hy
          exact ⟨b, o, e, c1⟩
        obtain ⟨g, o, rfl, -⟩ := CC.out w (Below.refl _ _)
        have CD : Hid (∀ V, Below w.heap.size w V → V.cell? ⟨g, o + j * 3 + 1, none⟩ = some (.int .i64 y)) := Lib.hid fun V hV => by
          obtain ⟨b, o', e, c1⟩ := CC.out V hV
          simp only [Option.some.injEq, Addr.mk.injEq, and_true] at e
          obtain ⟨rfl, rfl⟩ := e
          exact c1
        obtain ⟨s, hs0⟩ : ∃ s, s = sumD (L.take j) := ⟨_, rfl⟩
        obtain ⟨s1, hs1⟩ : ∃ s, s = sumD (L.take (j + 1)) := ⟨_, rfl⟩
        rw [← hs0] at hb0 hs ⊢
        rw [← hs1] at hb1 hs
        have wr : IntKind.i64.wrap (s + y) = s1 := (IntWalk.i64_in _ (by omega)).trans hs.symm
        have HS1 := Lib.hid hs1
        clear hs0 hs1 hs hy CC
        go_wp2_with (first
          | (go_at_call 14; refine (CK.out _ (H.out.below B.out)).mono ?_; rintro e w1 ⟨rfl, hb1⟩; have B1 := Lib.hid (B.out.trans (hb1.mono B.out.size)); have c1 := CD.out _ B1.out; clear hb1))
        clear wr
        go_roundw
        case rel => exact ⟨j + 1, by go_num, by omega, B1.out, by rw [HS1.out]⟩
        case measure => simp [intOf]; omega
      · obtain rfl : j = n := by omega
        obtain rfl : k = sumD (L.take j) := by rw [HS.out, HN.out, List.take_length]
        clear hlt
        go_wp2
        go_ret
        exact ⟨rfl, B.out⟩
  · obtain rfl : k = 0 := by rcases HK.out with ⟨n, _⟩ | ⟨_, e⟩; exact absurd n hg; exact e
    by_cases h0 : n = 0
    · exfalso
      have : L = [] := List.eq_nil_of_length_eq_zero (by rw [← HN.out]; exact h0)
      exact hg (by rw [this]; exact OkD.nil)
    · have hpos : 0 < n := by omega
      clear hg HK h0
      go_enter Try.func18, Try.ntmps18
      go_wp2_with fail
      go_loopw [3, 4] (fun s i wr => s = .int .i64 0 ∧ i = .int .i64 0 ∧ wr = w) (fun _ _ _ => 0)
      case atStart => exact ⟨rfl, rfl, rfl⟩
      case round =>
        obtain ⟨rfl, rfl, rfl⟩ := hrel
        go_wp2_with (first
          | (go_at_call 14; refine (CK.out _ H.out).mono ?_; rintro e w1 ⟨rfl, hb1⟩; have B1 := Lib.hid hb1; clear hb1))
        go_ret
        exact ⟨rfl, B1.out⟩
end Go.Proofs.Ytmfpoagimedhnaa
