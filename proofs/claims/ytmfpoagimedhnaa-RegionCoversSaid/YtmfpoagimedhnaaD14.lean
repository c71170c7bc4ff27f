/- The contracts of the document's less and few of layer 14. Condition: the slice lies in memory. -/
import Derived.Test.YtmfpoagimedhnaaD13
namespace Go.Proofs.Ytmfpoagimedhnaa
open Go.RowKit Go.Maps
set_option maxRecDepth 100000

theorem arsV_one (L : List Ar) : ∀ u ∈ arsV L, u.oneCell' = true := fun u hu => by
  simp only [arsV, List.mem_flatMap] at hu
  obtain ⟨x, -, hu⟩ := hu
  simp only [List.mem_cons, List.not_mem_nil, or_false] at hu
  rcases hu with rfl | rfl | rfl <;> rfl
theorem arsV_append (L M : List Ar) : arsV (L ++ M) = arsV L ++ arsV M := by simp [arsV]
theorem OwnD.step {base : Nat} {w w' : World} {v : Value} {L : List Ar} (h : OwnD base w v L) (hb : Below w.heap.size w w') : OwnD base w' v L := own_step h hb
/-- A row, as the source of an append. -/
theorem OwnD.src {base : Nat} {w : World} {v : Value} {L : List Ar} (h : OwnD base w v L) : (v = .slice none 0 0 ∧ L = []) ∨ ∃ g c, v = .slice (some ⟨g, 0, none⟩) L.length c ∧ ∀ j u, (arsV L)[j]? = some u → w.cell? ((⟨g, 0, none⟩ : Addr).add j) = some u := by
  have h' : w.ownsRow base 32 3 v L.length (arsV L) := h
  rcases h.2 with ⟨rfl, h0⟩ | ⟨g, cap, cur, rfl, hb, hgg, _⟩
  · exact Or.inl ⟨rfl, List.eq_nil_of_length_eq_zero h0⟩
  · exact Or.inr ⟨g, cap, rfl, fun j u hu => h'.cells (g := g) rfl _ _ hu⟩
theorem less_take {L : List Ar} {j : Nat} (h : j < L.length) (f m : Int) : lessL f m (L.take (j + 1)) = lessL f m (L.take j) ++ outD f m (L.getD j default) := by
  rw [List.take_succ_eq_append_getElem h, less_snoc, List.getD_eq_getElem?_getD, List.getElem?_eq_getElem h]
  rfl
set_option maxHeartbeats 4000000 in
theorem less_ok (L : List Ar) (hL : OkD L) (f m : Int) (hf : FitD f m) (v : Value) (w : World) (h : ArAt w v L) : Calls Try.prog 36 #[v, .int .i64 f, .int .i64 m] w fun e w' => ∃ v', e = .returned v' ∧ OwnD w.heap.size w' v' (lessL f m L) ∧ Below w.heap.size w w' := by
  obtain ⟨ii, hi, hi0, hi1, hi2⟩ := info_parts areaInfo
  have h8 := hL.few
  obtain ⟨a, c, rfl⟩ := h.form
  obtain ⟨n, hn⟩ : ∃ n, n = L.length := ⟨_, rfl⟩
  rw [← hn] at h8 h ⊢
  have H := Lib.hid h
  have HN := Lib.hid hn
  have UP := Lib.hid hL.up
  have HF := Lib.hid hf
  clear hn h hL hf
  go_enter Try.func36, Try.ntmps36
  go_wp2_with fail
  go_loopw [7, 8] (fun s i wr => ∃ j : Nat, i = .int .i64 (j : Int) ∧ j ≤ n ∧ Below w.heap.size w wr ∧ OwnD w.heap.size wr s (lessL f m (L.take j))) (fun _ i _ => (n - (intOf i).toNat))
  case atStart => exact ⟨0, rfl, Nat.zero_le _, Below.refl _ _, World.ownsRow_nil _ _ _ _⟩
  case round =>
    obtain ⟨j, rfl, hj, hB, hO⟩ := hrel
    have B := Lib.hid hB
    have O := Lib.hid hO
    clear hB hO
    obtain ⟨a1, c1, rfl⟩ := owns_slice O.out
    by_cases hlt : j < n
    · have hjl : j < L.length := by rw [← HN.out]; exact hlt
      obtain ⟨⟨x, y, b⟩, hy⟩ : ∃ y, L.getD j default = y := ⟨_, rfl⟩
      obtain ⟨g, o, rfl, hbl, -, d0, d1, d2⟩ := (H.out.below B.out).at_ hjl hy
      simp only at d0 d1 d2
      have hft := fit_at UP.out hjl
      have hlen := less_len f m (L.take j)
      have hlt2 : (L.take j).length ≤ n := by rw [List.length_take]; omega
      have hout := out_len f m (x, y, b)
      have LT := Lib.hid (less_take hjl f m)
      rw [hy] at hft LT
      have HFT := Lib.hid hft
      obtain ⟨K, hK⟩ : ∃ K, K = lessL f m (L.take j) := ⟨_, rfl⟩
      obtain ⟨M, hM⟩ : ∃ M, M = outD f m (x, y, b) := ⟨_, rfl⟩
      rw [← hK] at O LT hlen ⊢
      rw [← hM] at LT hout
      have OK : Hid (∀ V, Calls Try.prog 40 #[.agg #[.int .i64 x, .int .i64 y, .bool b], .int .i64 f, .int .i64 m] V fun e w' => ∃ v, e = .returned v ∧ OwnD V.heap.size w' v M ∧ Below V.heap.size V w') := Lib.hid fun V => by rw [hM]; exact outside_ok x y b f m HFT.out HF.out V
      clear hy hft hK hM
      go_wp2_with fail
      refine (OK.out _).mono ?_
      rintro e w1 ⟨v1, rfl, ho1, hb1⟩
      have O1 := Lib.hid (O.out.step hb1)
      have B1 := Lib.hid (B.out.trans (hb1.mono B.out.size))
      have S1 := ho1.src
      clear hb1 ho1
      rcases S1 with ⟨rfl, rfl⟩ | ⟨g1, cc, rfl, hc1⟩
      · go_wp2_with (at_builtin; refine wpList_append_own_none rfl (.tmp 15) (.tmp 22) 22 rfl w.heap.size 32 ii 3 Try.underlying22 hi _ _ _ rfl O1.out rfl ?_)
        go_roundw
        case rel => exact ⟨j + 1, by go_num, by omega, B1.out, by rw [LT.out, List.append_nil]; exact O1.out⟩
        case measure => simp [intOf]; omega
      · have HC := Lib.hid hc1
        clear hc1
        go_wp2_with (at_builtin; refine wpList_append_own _ rfl (.tmp 15) (.tmp 22) 22 rfl w.heap.size 32 ii (.agg #[.int .i64 0, .int .i64 0, .bool false]) 3 24 Try.underlying22 hi hi0 hi1 hi2 rfl (by decide) _ _ _ rfl O1.out ⟨g1, 0, none⟩ M.length cc (arsV M) rfl (arsV_len M) HC.out (arsV_one M) (by unfold maxLen; omega) (by omega) B1.out.size ?_; intro v2 w2 ho hg _; have O2 : Hid (OwnD w.heap.size w2 v2 (K ++ M)) := Lib.hid (by unfold OwnD; rw [arsV_append, List.length_append]; exact ho); have B2 := Lib.hid (below_grown B1.out hg (Nat.le_refl _) (fun g h => (World.ownsRow.lt O1.out g h).1)); clear ho hg)
        go_roundw
        case rel => exact ⟨j + 1, by go_num, by omega, B2.out, by rw [LT.out]; exact O2.out⟩
        case measure => simp [intOf]; omega
    · obtain rfl : j = n := by omega
      have TK : Hid (L.take j = L) := Lib.hid (by rw [HN.out, List.take_length])
      clear hlt
      go_wp2
      go_ret
      refine ⟨_, rfl, ?_, B.out⟩
      have := O.out
      rw [TK.out] at this ⊢
      exact this
/-- What few answers. -/
theorem few_ok {f : Int → Option Bool} (R : List Ar) (hl : R.length ≤ 2000) (v : Value) (w : World) (h : ArAt w v R) (up : UpD R) (ha : ∀ p, atD R p = f p) : Calls Try.prog 33 #[v] w fun e w' => ∃ v er M, e = .returned (.tuple #[v, .int .i64 er]) ∧ AnsD f er M ∧ ArAt w' v M ∧ Below w.heap.size w w' := by
  obtain ⟨a, c, rfl⟩ := h.form
  obtain ⟨n, hn⟩ : ∃ n, n = R.length := ⟨_, rfl⟩
  rw [← hn] at h hl ⊢
  have H := Lib.hid h
  by_cases h8 : 8 < n
  · have AN := Lib.hid (AnsD.many up ha (by omega))
    clear h up ha hn
    go_enter Try.func33, Try.ntmps33
    go_wp2
    go_ret2
    exact ⟨_, _, _, rfl, AN.out, ArAt.nil _, Below.refl _ _⟩
  · have AN := Lib.hid (AnsD.few up ha (by omega))
    clear h up ha hn
    go_enter Try.func33, Try.ntmps33
    go_wp2
    go_ret2
    exact ⟨_, _, _, rfl, AN.out, H.out, Below.refl _ _⟩
end Go.Proofs.Ytmfpoagimedhnaa
