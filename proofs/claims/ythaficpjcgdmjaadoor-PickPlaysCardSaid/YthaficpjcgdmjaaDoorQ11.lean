/- The contract of the document's own Put, layer 8. Condition: the row lies in memory, its numbers rising. -/
import Derived.Test.YthaficpjcgdmjaaDoorQ10
import Derived.Laws.AppendOwnNone
namespace Go.Proofs.YthaficpjcgdmjaaDoor
open Go.RowKit
set_option maxRecDepth 100000

theorem ins_split : ∀ (L : List Nat) (n k : Nat), k ≤ L.length → (∀ i, i < k → L.getD i 0 < n) → (k < L.length → n < L.getD k 0) → ins L n = L.take k ++ [n] ++ L.drop k
  | [], n, k, hk, _, _ => by
    obtain rfl : k = 0 := by simpa using hk
    rfl
  | x :: r, n, 0, _, _, h => by
    have := h (by simp)
    rw [ins, if_pos (by simpa using this)]
    rfl
  | x :: r, n, k + 1, hk, h1, h2 => by
    have hx : x < n := by simpa using h1 0 (by omega)
    rw [ins, if_neg (by omega), ins_split r n k (by simpa using hk) (fun i hi => by simpa using h1 (i + 1) (by omega)) (fun hlt => by simpa using h2 (by simpa using hlt))]
    rfl
theorem natsV_one {L : List Nat} : ∀ u ∈ natsV L, u.oneCell' = true := fun u hu => by
  obtain ⟨x, _, rfl⟩ := List.mem_map.1 hu
  rfl
/-- What a slice's beginning, or end, is. -/
theorem IRow.cut {w : World} {a : Option Addr} {c m : Nat} {L : List Nat} (h : IRow w (.slice a m c) L) (hm : m = L.length) (k : Nat) (hk : k ≤ m) :
    (a = none ∧ c = 0 ∧ L = [] ∧ k = 0) ∨ ∃ b o, a = some ⟨b, o, none⟩ ∧ m ≤ c ∧ c ≤ maxLen ∧ (∀ j u, (natsV (L.take k))[j]? = some u → w.cell? ((⟨b, o, none⟩ : Addr).add j) = some u) ∧ (∀ j u, (natsV (L.drop k))[j]? = some u → w.cell? ((⟨b, o + k, none⟩ : Addr).add j) = some u) ∧ b < w.heap.size := by
  subst hm
  rcases h with ⟨h1, h2⟩ | ⟨b, o, c', h1, h2, h3, h4, h5⟩
  · subst h2
    cases h1
    exact Or.inl ⟨rfl, rfl, rfl, by simpa using hk⟩
  · cases h1
    refine Or.inr ⟨b, o, rfl, h2, h3, fun j u hu => ?_, fun j u hu => ?_, h4⟩
    · have hj : j < k ∧ j < L.length := by have := (List.getElem?_eq_some_iff.1 hu).1; rw [natsV_length, List.length_take] at this; omega
      rw [Addr.add_mid, h5 j hj.2, ← hu, natsV_get _ _ (by rw [List.length_take]; omega)]
      simp [List.getD_eq_getElem?_getD, hj.1]
    · have hj : k + j < L.length := by have := (List.getElem?_eq_some_iff.1 hu).1; rw [natsV_length, List.length_drop] at this; omega
      rw [Addr.add_mid, Nat.add_assoc, h5 (k + j) hj, ← hu, natsV_get _ _ (by rw [List.length_drop]; omega)]
      simp [List.getD_eq_getElem?_getD, List.getElem?_drop]

set_option maxHeartbeats 2000000 in
theorem rput_new (L : List Nat) (v : Value) (n : Nat) (w : World) (h : IRow w v L) (hl : L.length ≤ 1500) (hn : n < 1024) (hm : n ∉ L) : Calls Tryd.prog 12 #[v, .int .i64 n] w (RowPost w 0 (ins L n)) := by
  obtain ⟨ii, hi, hi0, hi1, hi2⟩ := info_parts intInfoQ
  have H := Lib.hid h
  obtain ⟨a, c, rfl, hc⟩ := h.open_
  have HC := Lib.hid hc
  have d1 : decide ((n : Int) < 0) = false := decide_eq_false (by omega)
  have d2 : decide (1023 < (n : Int)) = false := decide_eq_false (by omega)
  have hhas := rhas_ok L _ (n : Int) w H.out (by omega)
  have hin := in_num L n ((numB_iff _).2 (by omega))
  rw [Int.toNat_natCast, decide_eq_false hm] at hin
  rw [hin] at hhas
  have HAS := Lib.hid hhas
  obtain ⟨m, hml⟩ : ∃ m, m = L.length := ⟨_, rfl⟩
  rw [← hml] at hl HAS H ⊢
  have HM := Lib.hid hml
  have NO := Lib.hid hm
  clear h hc hhas hin hm hml
  go_enter Tryd.func12, Tryd.ntmps12
  go_wp2_with (go_at_call 18; refine HAS.out.mono ?_; rintro e w' ⟨rfl, rfl⟩)
  obtain ⟨W, hW⟩ : ∃ W, W = w := ⟨_, rfl⟩
  rw [← hW] at HC H
  have HW := Lib.hid hW
  clear hW
  go_loopw [6] (fun i wr => ∃ k : Nat, i = .int .i64 (k : Int) ∧ k ≤ m ∧ (∀ j, j < k → L.getD j 0 < n) ∧ W = wr) (fun i _ => m - (intOf i).toNat)
  case atStart => exact ⟨0, rfl, Nat.zero_le _, fun j hj => absurd hj (Nat.not_lt_zero _), HW.out⟩
  case round =>
    obtain ⟨k, rfl, hk, hlow, rfl⟩ := hrel
    have LOW := Lib.hid hlow
    clear hlow
    by_cases hlt : k < m ∧ L.getD k 0 < n
    · obtain ⟨hlt, hx⟩ := hlt
      obtain ⟨b, o, rfl, hbl, hcell⟩ := HC.out k (by have := HM.out; omega)
      have ck := hcell k (by have := HM.out; omega)
      have LOW2 : Hid (∀ j, j < k + 1 → L.getD j 0 < n) := Lib.hid (fun j hj => by
        by_cases e : j = k
        · rw [e]; exact hx
        · exact LOW.out j (by omega))
      generalize L.getD k 0 = x at ck hx
      clear hcell
      go_wp2
      go_roundw
      case rel => exact ⟨k + 1, by go_num, by omega, LOW2.out, trivial⟩
      case measure => simp [intOf]; omega
    · have hge : k < m → n < L.getD k 0 := fun hkm => by
        have h1 : ¬ L.getD k 0 < n := fun e => hlt ⟨hkm, e⟩
        have h2 : L.getD k 0 ≠ n := fun e => NO.out (by rw [← e]; exact getD_mem (by have := HM.out; omega))
        omega
      have SP := Lib.hid (ins_split L n k (by have := HM.out; omega) LOW.out (by rw [← HM.out]; exact hge))
      clear hlt
      have CUT := H.out.cut HM.out k hk
      have OM := Lib.hid (World.ownsRow_made (base := W.heap.size) (e := 3) (size := 1) W #[] 0 (Nat.le_refl _) (by decide) rfl)
      have AM : Hid (Below W.heap.size W (W.alloc (.cells #[] 3))) := Lib.hid ((Below.refl _ _).alloc (Nat.le_refl _) _)
      rcases CUT with ⟨rfl, rfl, rfl, rfl⟩ | ⟨b, o, rfl, hmc, hcm, htake, hdrop, hbl⟩
      · obtain rfl : m = 0 := HM.out
        go_wp2_with (first
          | (at_builtin; refine wpList_append_own_none rfl (.tmp 33) (.tmp 36) 28 rfl W.heap.size 3 ii 1 Tryd.underlying28 hi _ 0 [] rfl OM.out rfl ?_; obtain ⟨w1, hw1⟩ : ∃ w1, w1 = W.alloc (.cells #[] 3) := ⟨_, rfl⟩; rw [← hw1] at OM AM ⊢; clear hw1; have O1 := Lib.hid (OM.out.alloc (.cells #[.int .i64 (n : Int)] 3)); have A1 := Lib.hid (AM.out.alloc AM.out.size (.cells #[.int .i64 (n : Int)] 3)))
          | (at_builtin; refine wpList_append_own _ rfl (.tmp 38) (.tmp 40) 28 rfl W.heap.size 3 ii (.int .i64 0) 1 8 Tryd.underlying28 hi hi0 hi1 hi2 rfl (by decide) _ 0 _ rfl O1.out ⟨w1.heap.size, 0, none⟩ 1 1 [.int .i64 (n : Int)] rfl rfl (one_atQ _ _ _) (by simp [Value.oneCell']) (by decide) (by decide) A1.out.size ?_; intro v2 w2 ho hg _; have O2 := Lib.hid ho; have A2 := Lib.hid (A1.out.grown hg A1.out.size (fun k hk => (O1.out.lt k hk).1)); clear ho hg)
          | (at_builtin; refine wpList_append_own_none rfl (.tmp 42) (.tmp 45) 28 rfl W.heap.size 3 ii 1 Tryd.underlying28 hi _ _ _ rfl O2.out rfl ?_))
        go_ret2
        exact ⟨_, rfl, own_irow (base := W.heap.size) (e := 3) (L := [n]) (by exact O2.out), by have := A2.out; rwa [HW.out] at this⟩
      · have TK := Lib.hid htake
        have DR := Lib.hid hdrop
        have lt1 : (L.take k).length = k := by rw [List.length_take]; have := HM.out; omega
        have lt2 : (L.drop k).length = m - k := by rw [List.length_drop, ← HM.out]
        have hway : ((k < m ∧ c ≠ k) ∧ ∃ x, L.getD k 0 = x ∧ n < x ∧ W.cell? ⟨b, o + k, none⟩ = some (.int .i64 (x : Int))) ∨ (¬ k < m ∧ c ≠ k) ∨ (¬ k < m ∧ c = k) := by
          by_cases e : k < m
          · refine Or.inl ⟨⟨e, by omega⟩, _, rfl, hge e, ?_⟩
            have := hdrop 0 _ (natsV_get (L.drop k) 0 (by omega))
            rw [Addr.add_mid, Nat.add_zero] at this
            rw [this]; simp [List.getD_eq_getElem?_getD]
          · by_cases e2 : c = k
            · exact Or.inr (Or.inr ⟨e, e2⟩)
            · exact Or.inr (Or.inl ⟨e, e2⟩)
        have T1 : Hid (∀ j u, (natsV (L.take k))[j]? = some u → (W.alloc (.cells #[] 3)).cell? ((⟨b, o, none⟩ : Addr).add j) = some u) := Lib.hid fun j u hu => by
          rw [Addr.add_mid, AM.out.cell (p := ⟨b, o + j, none⟩) hbl, ← Addr.add_mid]; exact TK.out j u hu
        clear hge htake hdrop
        have fin : ∀ (q : Nat) (v3 : Value) (w3 : World), q = 0 + k + 1 + (m - k) → w3.ownsRow W.heap.size 3 1 v3 q ([] ++ natsV (L.take k) ++ [.int .i64 (n : Int)] ++ natsV (L.drop k)) → IRow w3 v3 (ins L n) := fun q v3 w3 hq h => own_irow (base := W.heap.size) (e := 3) (by
          rw [SP.out]
          have e1 : (L.take k ++ [n] ++ L.drop k).length = 0 + k + 1 + (m - k) := by rw [List.length_append, List.length_append, lt1, lt2]; simp
          have e2 : natsV (L.take k ++ [n] ++ L.drop k) = [] ++ natsV (L.take k) ++ [.int .i64 (n : Int)] ++ natsV (L.drop k) := by simp [natsV]
          rw [e1, e2, ← hq]; exact h)
        have FIN := Lib.hid fin
        clear fin
        rcases hway with ⟨⟨hkm, hck⟩, x, hx, hnx, ck⟩ | ⟨hkm, hck⟩ | ⟨hkm, rfl⟩
        all_goals
          try have dk : decide (x < n) = false := decide_eq_false (by omega)
          go_wp2_with (first
            | (at_builtin; refine wpList_append_own _ rfl (.tmp 33) (.tmp 36) 28 rfl W.heap.size 3 ii (.int .i64 0) 1 8 Tryd.underlying28 hi hi0 hi1 hi2 rfl (by decide) _ 0 [] rfl OM.out ⟨b, o, none⟩ _ _ (natsV (L.take _)) rfl (by rw [natsV_length, lt1, Nat.mul_one]) T1.out natsV_one (by unfold maxLen; omega) (by omega) AM.out.size ?_; intro v1 w1 ho hg _; have A1 := Lib.hid ((AM.out.grown hg AM.out.size (fun k hk => (OM.out.lt k hk).1)).alloc (Nat.le_trans AM.out.size hg.size) (.cells #[.int .i64 (n : Int)] 3)); have O1 := Lib.hid (ho.alloc (.cells #[.int .i64 (n : Int)] 3)); clear ho hg)
            | (at_builtin; refine wpList_append_own _ rfl (.tmp 38) (.tmp 40) 28 rfl W.heap.size 3 ii (.int .i64 0) 1 8 Tryd.underlying28 hi hi0 hi1 hi2 rfl (by decide) _ _ _ rfl O1.out ⟨w1.heap.size, 0, none⟩ 1 1 [.int .i64 (n : Int)] rfl rfl (one_atQ _ _ _) (by simp [Value.oneCell']) (by unfold maxLen; omega) (by omega) A1.out.size ?_; intro v2 w2 ho hg _; have O2 := Lib.hid ho; have A2 := Lib.hid (A1.out.grown hg A1.out.size (fun k hk => (O1.out.lt k hk).1)); clear ho hg)
            | (at_builtin; refine wpList_append_own _ rfl (.tmp 42) (.tmp 45) 28 rfl W.heap.size 3 ii (.int .i64 0) 1 8 Tryd.underlying28 hi hi0 hi1 hi2 rfl (by decide) _ _ _ rfl O2.out ⟨b, o + k, none⟩ (m - k) _ (natsV (L.drop k)) rfl (by rw [natsV_length, lt2, Nat.mul_one]) (fun j u hu => by rw [Addr.add_mid, A2.out.cell (p := ⟨b, o + k + j, none⟩) hbl, ← Addr.add_mid]; exact DR.out j u hu) natsV_one (by unfold maxLen; omega) (by omega) A2.out.size ?_; intro v3 w3 ho hg _; have O3 := Lib.hid ho; have A3 := Lib.hid (A2.out.grown hg A2.out.size (fun k hk => (O2.out.lt k hk).1)); clear ho hg)
            | (at_builtin; refine wpList_append_own _ rfl (.tmp 42) (.tmp 45) 28 rfl W.heap.size 3 ii (.int .i64 0) 1 8 Tryd.underlying28 hi hi0 hi1 hi2 rfl (by decide) _ _ _ rfl O2.out ⟨b, o, none⟩ 0 _ (natsV (L.drop c)) rfl (by rw [natsV_length, lt2]; omega) (fun j u hu => by have := (List.getElem?_eq_some_iff.1 hu).1; rw [natsV_length, lt2] at this; omega) natsV_one (by unfold maxLen; omega) (by omega) A2.out.size ?_; intro v3 w3 ho hg _; have O3 := Lib.hid ho; have A3 := Lib.hid (A2.out.grown hg A2.out.size (fun k hk => (O2.out.lt k hk).1)); clear ho hg))
          go_ret2
          exact ⟨_, rfl, FIN.out _ _ _ (by omega) O3.out, by have := A3.out; rwa [HW.out] at this⟩
end Go.Proofs.YthaficpjcgdmjaaDoor
