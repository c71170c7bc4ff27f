/- The contracts of package region's Check, and of the document's Check of layer 14. Condition: the slices lie in memory. -/
import Derived.Test.YtmfpoagimedhnaaD4
namespace Go.Proofs.Ytmfpoagimedhnaa
open Go.RowKit Go.Maps
set_option maxRecDepth 100000

/-- What Check answers. -/
def ChkD (L : List Ar) (k : Int) : Prop := OkD L ∧ k = 0 ∨ ¬ OkD L ∧ k = 2
theorem chk_ex (L : List Ar) : ∃ k, ChkD L k := by
  by_cases h : OkD L
  · exact ⟨0, Or.inl ⟨h, rfl⟩⟩
  · exact ⟨2, Or.inr ⟨h, rfl⟩⟩
theorem take_up {L : List Ar} {j : Nat} (h : UpD (L.take j)) (hj : j < L.length) {x : Ar} (hx : L.getD j default = x) (hf : FitD x.1 x.2.1) (hl : ∀ k y, j = k + 1 → L.getD k default = y → FolD y x) : UpD (L.take (j + 1)) := by
  have e : x = L[j] := by rw [← hx]; simp [List.getD_eq_getElem?_getD, hj]
  rw [List.take_succ_eq_append_getElem hj, ← e]
  refine upD_snoc h hf fun y hy => ?_
  cases j with
  | zero => simp at hy
  | succ k =>
    refine hl k y rfl ?_
    have hk : k < L.length := by omega
    rw [List.take_succ_eq_append_getElem hk, List.getLast?_concat] at hy
    rw [List.getD_eq_getElem?_getD, List.getElem?_eq_getElem hk]
    exact Option.some.inj hy
theorem not_fit {L : List Ar} {j : Nat} (hj : j < L.length) {x : Ar} (hx : L.getD j default = x) (hf : ¬ FitD x.1 x.2.1) : ¬ OkD L := fun h => hf (by rw [← hx]; exact fit_at h.up hj)
theorem not_fol {L : List Ar} {k : Nat} (hk : k + 1 < L.length) {x y : Ar} (hy : L.getD k default = y) (hx : L.getD (k + 1) default = x) (hf : ¬ FolD y x) : ¬ OkD L := fun h => hf (by
  have := List.pairwise_iff_getElem.1 h.up.ord k (k + 1) (by omega) hk (by omega)
  rw [← hy, ← hx]
  simpa [List.getD_eq_getElem?_getD, List.getElem?_eq_getElem hk, List.getElem?_eq_getElem (show k < L.length by omega)] using this)
theorem fol_of {L : List Ar} {j : Nat} (h : UpD (L.take (j + 1))) (hj : j < L.length) : FitD (L.getD j default).1 (L.getD j default).2.1 := h.fit _ (by
  rw [List.take_succ_eq_append_getElem hj, List.getD_eq_getElem?_getD, List.getElem?_eq_getElem hj]
  exact List.mem_append_right _ (List.mem_singleton.2 rfl))
theorem ChkD.bad {L : List Ar} {k : Int} (h : ChkD L k) (n : ¬ OkD L) : k = 2 := by
  rcases h with ⟨a, _⟩ | ⟨_, e⟩
  · exact absurd a n
  · exact e
theorem ChkD.good {L : List Ar} {k : Int} (h : ChkD L k) (n : OkD L) : k = 0 := by
  rcases h with ⟨_, e⟩ | ⟨a, _⟩
  · exact e
  · exact absurd n a
set_option maxHeartbeats 4000000 in
theorem check_okD (L : List Ar) (v : Value) (w : World) (h : ArAt w v L) {k : Int} (hk : ChkD L k) : Calls Try.prog 13 #[v] w fun e w' => e = .returned (.int .i64 k) ∧ Below w.heap.size w w' := by
  have hl := h.len
  obtain ⟨a, c, rfl⟩ := h.form
  obtain ⟨n, hn⟩ : ∃ n, n = L.length := ⟨_, rfl⟩
  rw [← hn] at hl h ⊢
  have H := Lib.hid h
  have HN := Lib.hid hn
  have HK := Lib.hid hk
  clear hn h hk
  by_cases h8 : 8 < n
  · obtain rfl : k = 2 := HK.out.bad fun h => by have := h.few; have := HN.out; omega
    go_enter Try.func13, Try.ntmps13
    go_wp2
    go_ret
    exact ⟨rfl, Below.refl _ _⟩
  go_enter Try.func13, Try.ntmps13
  go_wp2_with fail
  go_loopw [10] (fun i wr => ∃ j : Nat, i = .int .i64 (j : Int) ∧ j ≤ n ∧ Below w.heap.size w wr ∧ UpD (L.take j)) (fun i _ => (n - (intOf i).toNat))
  case atStart => exact ⟨0, rfl, Nat.zero_le _, Below.refl _ _, by simpa using UpD.nil⟩
  case round =>
    obtain ⟨j, rfl, hj, hB, hup⟩ := hrel
    have B := Lib.hid hB
    have UP := Lib.hid hup
    clear hB hup
    by_cases hlt : j < n
    · have hjl : j < L.length := by rw [← HN.out]; exact hlt
      obtain ⟨⟨x, y, b⟩, hy⟩ : ∃ y, L.getD j default = y := ⟨_, rfl⟩
      obtain ⟨g, o, rfl, hbl, hwd, c0, c1, c2⟩ := (H.out.below B.out).at_ hjl hy
      simp only at c0 c1 c2
      have HW := Lib.hid hwd
      clear hwd
      have HY := Lib.hid hy
      clear hy
      by_cases hf : FitD x y
      · have hd : decide (FitD x y) = true := decide_eq_true hf
        have HF := Lib.hid hf
        have AP : Hid (∀ V, Calls Try.prog 28 #[.int .i64 x, .int .i64 y] V fun e w' => e = .returned (.bool true) ∧ w' = V) := Lib.hid fun V => by rw [← hd]; exact arePages_ok x y HW.out.1 HW.out.2 V
        clear hd hf
        cases j with
        | zero =>
          simp only [Nat.zero_mul, Nat.add_zero] at c0 c1 c2
          have UP1 : Hid (UpD (L.take (0 + 1))) := Lib.hid (take_up UP.out hjl HY.out HF.out (fun k y hk _ => by omega))
          have B1 := Lib.hid (B.out.alloc B.out.size (.cells #[.int .i64 x, .int .i64 y, .bool b] 32))
          go_wp2_with fail
          go_quiet ((go_at_call 28; exact Calls.quiet_of_same (AP.out _)))
          go_wp2
          go_roundw
          case rel => exact ⟨0 + 1, by go_num, by omega, below_drewN B1.out _, UP1.out⟩
          case measure => simp [intOf]; omega
        | succ q =>
          have hql : q < L.length := by omega
          obtain ⟨⟨x', y', b'⟩, hy'⟩ : ∃ y, L.getD q default = y := ⟨_, rfl⟩
          obtain ⟨g', o', he, hbl', hwd', c0', c1', c2'⟩ := (H.out.below B.out).at_ hql hy'
          simp only [Option.some.injEq, Addr.mk.injEq, and_true] at he
          obtain ⟨rfl, rfl⟩ := he
          simp only at c0' c1' c2'
          have hf' := fol_of UP.out hql
          rw [hy'] at hf'
          have HF' := Lib.hid hf'
          have HY' := Lib.hid hy'
          clear hf' hy' hwd'
          obtain ⟨j, hjq⟩ : ∃ j, j = q + 1 := ⟨_, rfl⟩
          rw [← hjq] at c0 c1 c2 hlt hj ⊢
          have wr1 : IntKind.i64.wrap ((j : Int) - 1) = (q : Int) := (IntWalk.i64_in _ (by omega)).trans (by omega)
          have hdj : decide (0 < j) = true := decide_eq_true (by omega)
          have hqn : q < n := by omega
          have JQ := Lib.hid hjq
          clear hjq
          have BX : Hid (∀ V, Below (wr.alloc (.cells #[.int .i64 x, .int .i64 y, .bool b] 32)).heap.size (wr.alloc (.cells #[.int .i64 x, .int .i64 y, .bool b] 32)) V → (V.cell? ⟨wr.heap.size, 0, none⟩ = some (.int .i64 x) ∧ V.cell? ⟨wr.heap.size, 1, none⟩ = some (.int .i64 y) ∧ V.cell? ⟨wr.heap.size, 2, none⟩ = some (.bool b)) ∧ V.cell? ⟨g, o + q * 3, none⟩ = some (.int .i64 x') ∧ V.cell? ⟨g, o + q * 3 + 1, none⟩ = some (.int .i64 y') ∧ V.cell? ⟨g, o + q * 3 + 2, none⟩ = some (.bool b')) := Lib.hid fun V hb => by
            have k1 := hb.trans (Below.refl _ _)
            have kb : Below wr.heap.size wr V := ((Below.refl _ _).alloc (Nat.le_refl _) _).trans (hb.mono (by simp))
            have k : ∀ q, V.cell? ⟨g, q, none⟩ = wr.cell? ⟨g, q, none⟩ := fun q => kb.cell (p := ⟨g, q, none⟩) hbl
            exact ⟨cells3 (below_block hb (heap_alloc_new wr _)), (k _).trans c0', (k _).trans c1', (k _).trans c2'⟩
          have B1 := Lib.hid (B.out.alloc B.out.size (.cells #[.int .i64 x, .int .i64 y, .bool b] 32))
          have R1 := Lib.hid (Below.refl (wr.alloc (.cells #[.int .i64 x, .int .i64 y, .bool b] 32)).heap.size (wr.alloc (.cells #[.int .i64 x, .int .i64 y, .bool b] 32)))
          clear c0' c1' c2'
          by_cases hg : FolD (x', y', b') (x, y, b)
          · have UP1 : Hid (UpD (L.take (j + 1))) := Lib.hid (by rw [JQ.out]; exact take_up UP.out hjl HY.out HF.out (fun k y hk hy => by
              obtain rfl : k = q := by omega
              rw [← hy, HY'.out]; exact hg))
            have hd : decide (FolD (x', y', b') (x, y, b)) = true := decide_eq_true hg
            have MF : Hid (∀ V, Calls Try.prog 29 #[.agg #[.int .i64 x', .int .i64 y', .bool b'], .agg #[.int .i64 x, .int .i64 y, .bool b]] V fun e w' => e = .returned (.bool true) ∧ Below V.heap.size V w') := Lib.hid fun V => by rw [← hd]; exact follow_ok x' y' b' x y b HF'.out HW.out.1 V
            clear hd hg
            go_wp2_with fail
            go_region_held3 (fun V => (V.cell? ⟨wr.heap.size, 0, none⟩ = some (.int .i64 x) ∧ V.cell? ⟨wr.heap.size, 1, none⟩ = some (.int .i64 y) ∧ V.cell? ⟨wr.heap.size, 2, none⟩ = some (.bool b)) ∧ V.cell? ⟨g, o + q * 3, none⟩ = some (.int .i64 x') ∧ V.cell? ⟨g, o + q * 3 + 1, none⟩ = some (.int .i64 y') ∧ V.cell? ⟨g, o + q * 3 + 2, none⟩ = some (.bool b')) (first | with_reducible exact BX.out _ R1.out.drew | with_reducible exact BX.out _ R2.out)
              (first
                | (go_at_call 28; refine (AP.out _).mono ?_; rintro e w2 ⟨rfl, rfl⟩)
                | (go_at_call 29; refine (MF.out _).mono ?_; rintro e w2 ⟨rfl, hb2⟩; have R2 := Lib.hid (R1.out.drew.trans (hb2.mono (by exact R1.out.drew.size))); clear hb2))
            clear hdj wr1
            go_wp2
            go_roundw
            case rel => exact ⟨j + 1, by go_num, by omega, B1.out.trans (R2.out.mono (by have := B1.out.size; omega)), UP1.out⟩
            case measure => simp [intOf]; omega
          · obtain rfl : k = 2 := HK.out.bad (not_fol hjl HY'.out HY.out hg)
            have hd : decide (FolD (x', y', b') (x, y, b)) = false := decide_eq_false hg
            have MF : Hid (∀ V, Calls Try.prog 29 #[.agg #[.int .i64 x', .int .i64 y', .bool b'], .agg #[.int .i64 x, .int .i64 y, .bool b]] V fun e w' => e = .returned (.bool false) ∧ Below V.heap.size V w') := Lib.hid fun V => by rw [← hd]; exact follow_ok x' y' b' x y b HF'.out HW.out.1 V
            clear hd hg
            go_wp2_with fail
            go_region_held3 (fun V => (V.cell? ⟨wr.heap.size, 0, none⟩ = some (.int .i64 x) ∧ V.cell? ⟨wr.heap.size, 1, none⟩ = some (.int .i64 y) ∧ V.cell? ⟨wr.heap.size, 2, none⟩ = some (.bool b)) ∧ V.cell? ⟨g, o + q * 3, none⟩ = some (.int .i64 x') ∧ V.cell? ⟨g, o + q * 3 + 1, none⟩ = some (.int .i64 y') ∧ V.cell? ⟨g, o + q * 3 + 2, none⟩ = some (.bool b')) (first | with_reducible exact BX.out _ R1.out.drew | with_reducible exact BX.out _ R2.out)
              (first
                | (go_at_call 28; refine (AP.out _).mono ?_; rintro e w2 ⟨rfl, rfl⟩)
                | (go_at_call 29; refine (MF.out _).mono ?_; rintro e w2 ⟨rfl, hb2⟩; have R2 := Lib.hid (R1.out.drew.trans (hb2.mono (by exact R1.out.drew.size))); clear hb2))
            clear hdj wr1
            go_wp2
            go_ret
            exact ⟨rfl, B1.out.trans (R2.out.mono (by have := B1.out.size; omega))⟩
      · obtain rfl : k = 2 := HK.out.bad (not_fit hjl HY.out hf)
        have hd : decide (FitD x y) = false := decide_eq_false hf
        have AP : Hid (∀ V, Calls Try.prog 28 #[.int .i64 x, .int .i64 y] V fun e w' => e = .returned (.bool false) ∧ w' = V) := Lib.hid fun V => by rw [← hd]; exact arePages_ok x y HW.out.1 HW.out.2 V
        clear hd hf
        have B1 := Lib.hid (B.out.alloc B.out.size (.cells #[.int .i64 x, .int .i64 y, .bool b] 32))
        go_wp2_with fail
        go_quiet ((go_at_call 28; exact Calls.quiet_of_same (AP.out _)))
        go_wp2
        go_ret
        exact ⟨rfl, below_drewN B1.out _⟩
    · obtain rfl : j = n := by omega
      obtain rfl : k = 0 := HK.out.good ⟨by rw [← HN.out]; omega, by have := UP.out; rwa [HN.out, List.take_length] at this⟩
      clear hlt
      go_wp2
      go_ret
      exact ⟨rfl, B.out⟩
end Go.Proofs.Ytmfpoagimedhnaa
