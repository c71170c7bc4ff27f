/- The walk of the law RegionCut. Condition: the slice lies in memory. -/
import Derived.Test.YtmfpoagimedhnaaD20
namespace Go.Proofs.Ytmfpoagimedhnaa
open Go.RowKit Go.Maps
set_option maxRecDepth 100000

theorem regionCut_far (n c : Nat) (a : Option Addr) (f m : Int) (d : Bool) (W : World) (hn : 100 < n) : Calls Try.prog 5 #[.slice a n c, .int .i64 f, .int .i64 m, .bool d] W fun e w' => e = .returned (.bool true) ∧ Below W.heap.size W w' := by
  go_enter Try.func5, Try.ntmps5
  go_wp2_with (go_at_call 10; refine (awake14 _).mono ?_; rintro e w2 ⟨rfl, hb⟩; have B := Lib.hid hb; clear hb)
  go_ret
  exact ⟨rfl, B.out⟩
set_option maxHeartbeats 4000000 in
theorem regionCut_near (L : List Ar) (v : Value) (f m : Int) (d : Bool) (hf : I64 f) (hm : I64 m) (W : World) (hl : L.length ≤ 100) (h : ArgAr W v L) : Calls Try.prog 5 #[v, .int .i64 f, .int .i64 m, .bool d] W fun e w' => e = .returned (.bool true) ∧ Below W.heap.size W w' := by
  obtain ⟨ii, hi, hi0, hi1, hi2⟩ := info_parts areaInfo
  have OM := Lib.hid (World.ownsRow_lit (base := W.heap.size) (e := 32) (size := 3) W #[] 0 (Nat.le_refl _) (by decide) rfl)
  have AM : Hid (Below W.heap.size W (W.alloc (.cells #[] 32))) := Lib.hid ((Below.refl _ _).alloc (Nat.le_refl _) _)
  have A0 := Lib.hid (h.near hl)
  have WD := Lib.hid (show ∀ x ∈ L, WideD x from by obtain ⟨_, _, _, _, hw, _⟩ := h; exact hw)
  have SR := Lib.hid (h.src _ AM.out)
  have C1 := Lib.hid (fun u V (hV : ArAt V u L) => Cut_okD L u f m hf hm V hV)
  have C2 := Lib.hid (fun V (hV : ArAt V v L) => rCut_okD L v f m hf hm V hV)
  have S1 := Lib.hid (fun u V (hV : ArAt V u L) => Set_okD L u f m d hf hm V hV)
  have S2 := Lib.hid (fun V (hV : ArAt V v L) => rSet_okD L v f m d hf hm V hV)
  obtain ⟨a, c, rfl⟩ := h.form
  obtain ⟨n, hn⟩ : ∃ n, n = L.length := ⟨_, rfl⟩
  rw [← hn] at A0 SR C2 S2 hl ⊢
  have HN := Lib.hid hn
  have DN : Hid (∀ u V, V.ownsRow W.heap.size 32 3 u (0 + n) ([] ++ arsV L) → ArAt V u L) := Lib.hid fun u V ho => by
    rw [Nat.zero_add, List.nil_append, HN.out] at ho
    exact ArAt.of_row ho (by rw [← HN.out]; omega) WD.out
  clear h hn hf hm
  go_enter Try.func5, Try.ntmps5
  go_wp2_with (first
    | (at_builtin; refine wpList_append_src rfl (.tmp 22) (.tmp 23) 22 rfl W.heap.size 32 ii (.agg #[.int .i64 0, .int .i64 0, .bool false]) 3 24 Try.underlying22 hi hi0 hi1 hi2 rfl (by decide) _ 0 [] rfl OM.out _ n (arsV L) rfl SR.out (by rw [arsV_len, HN.out]) (arsV_one L) (by unfold maxLen; omega) (by omega) (by simp) ?_; intro v5 w5 ho hg; have A5 := Lib.hid (DN.out _ _ ho); have B5 : Hid (Below W.heap.size W w5) := Lib.hid (below_grown AM.out hg (Nat.le_refl _) (fun g h => (World.ownsRow.lt OM.out g h).1)); obtain ⟨a5, c5, rfl⟩ := A5.out.form; clear ho hg))
  refine (C1.out _ _ A5.out).mono ?_
  rintro e w6 ⟨v6, er, M, rfl, ha, hat, hb⟩
  have HA := Lib.hid ha
  have B6 := Lib.hid (B5.out.trans (hb.mono B5.out.size))
  have X6 := Lib.hid hat
  have A6 := Lib.hid (A5.out.below hb)
  obtain ⟨a6, c6, rfl⟩ := hat.form
  clear ha hat hb
  go_wp2_with fail
  refine (C2.out _ (A0.out.below B6.out)).mono ?_
  rintro e w7 ⟨v7, er', M', rfl, ha, hat, hb⟩
  obtain ⟨rfl, rfl⟩ := CutD.uniq ha HA.out
  have B7 := Lib.hid (B6.out.trans (hb.mono B6.out.size))
  have X7 := Lib.hid (X6.out.below hb)
  have Y7 := Lib.hid hat
  have A7 := Lib.hid (A6.out.below hb)
  obtain ⟨a7, c7, rfl⟩ := hat.form
  clear ha hat hb
  go_wp2_with fail
  refine (S1.out _ _ A7.out).mono ?_
  rintro e w8 ⟨v8, es, N, rfl, ha, hat, hb⟩
  have HS := Lib.hid ha
  have B8 := Lib.hid (B7.out.trans (hb.mono B7.out.size))
  have X8 := Lib.hid (X7.out.below hb)
  have Y8 := Lib.hid (Y7.out.below hb)
  have U8 := Lib.hid hat
  have A8 := Lib.hid (A7.out.below hb)
  obtain ⟨a8, c8, rfl⟩ := hat.form
  clear ha hat hb
  go_wp2_with fail
  refine (S2.out _ (A0.out.below B8.out)).mono ?_
  rintro e w9 ⟨v9, es', N', rfl, ha, hat, hb⟩
  obtain ⟨rfl, rfl⟩ := SetD.uniq ha HS.out
  have B9 := Lib.hid (B8.out.trans (hb.mono B8.out.size))
  have X9 := Lib.hid (X8.out.below hb)
  have Y9 := Lib.hid (Y8.out.below hb)
  have U9 := Lib.hid (U8.out.below hb)
  have V9 := Lib.hid hat
  have A9 := Lib.hid (A8.out.below hb)
  obtain ⟨a9, c9, rfl⟩ := hat.form
  clear ha hat hb
  go_wp2_with fail
  refine (sameD _ _ _ _ X9.out Y9.out).mono ?_
  rintro e w10 ⟨rfl, hb⟩
  have B10 := Lib.hid (B9.out.trans (hb.mono B9.out.size))
  have U10 := Lib.hid (U9.out.below hb)
  have V10 := Lib.hid (V9.out.below hb)
  have A10 := Lib.hid (A9.out.below hb)
  clear hb
  go_wp2_with fail
  refine (sameD _ _ _ _ U10.out V10.out).mono ?_
  rintro e w11 ⟨rfl, hb⟩
  have B11 := Lib.hid (B10.out.trans (hb.mono B10.out.size))
  have A11 := Lib.hid (A10.out.below hb)
  clear hb
  go_wp2_with fail
  refine (sameD _ _ _ _ A11.out (A0.out.below B11.out)).mono ?_
  rintro e w12 ⟨rfl, hb⟩
  have B12 := Lib.hid (B11.out.trans (hb.mono B11.out.size))
  clear hb
  go_wp2_with fail
  refine (awake14 _).mono ?_
  rintro e w13 ⟨rfl, hb⟩
  have B13 := Lib.hid (B12.out.trans (hb.mono B12.out.size))
  clear hb
  go_wp2
  go_ret
  exact ⟨rfl, B13.out⟩
theorem regionCut_walk (v : Value) (L : List Ar) (f m : Int) (d : Bool) (W : World) (h : ArgAr W v L) (hf : I64 f) (hm : I64 m) : Calls Try.prog 5 #[v, .int .i64 f, .int .i64 m, .bool d] W fun e w' => e = .returned (.bool true) ∧ Below W.heap.size W w' := by
  by_cases hl : L.length ≤ 100
  · exact regionCut_near L v f m d hf hm W hl h
  · obtain ⟨a, c, rfl⟩ := h.form
    exact regionCut_far _ c a f m d W (by omega)
end Go.Proofs.Ytmfpoagimedhnaa
