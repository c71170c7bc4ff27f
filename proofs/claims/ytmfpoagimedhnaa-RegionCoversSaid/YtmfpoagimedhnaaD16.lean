/- The contracts of the document's Add, Cut, Set of layer 14. Condition: the slice lies in memory. -/
import Derived.Test.YtmfpoagimedhnaaD15
import Derived.Test.YtmfpoagimedhnaaD12
import Derived.Test.YtmfpoagimedhnaaD9
namespace Go.Proofs.Ytmfpoagimedhnaa
open Go.RowKit Go.Maps
set_option maxRecDepth 100000

theorem meet_at {L : List Ar} {a : Ar} {j : Nat} (up : UpD L) (ha : FitD a.1 a.2.1) (hj : j < L.length) (h : MeetD (L.getD j default) a) : ¬ ∀ p, HasD a p → atD L p = none := meet_some up ha (getD_inD hj) h
theorem meet_no {L : List Ar} {a : Ar} (h : ∀ i, i < L.length → ¬ MeetD (L.getD i default) a) : ∀ p, HasD a p → atD L p = none := meet_none fun x hx => by
  obtain ⟨i, hi, rfl⟩ := List.getElem_of_mem hx
  have := h i hi
  rwa [List.getD_eq_getElem?_getD, List.getElem?_eq_getElem hi] at this
set_option maxHeartbeats 4000000 in
theorem rAdd_okD (L : List Ar) (v : Value) (x y : Int) (d : Bool) (hx : I64 x) (hy : I64 y) (w : World) (h : ArAt w v L) : Calls Try.prog 20 #[v, .agg #[.int .i64 x, .int .i64 y, .bool d]] w (MadeD w (AddD L (x, y, d))) := by
  have hb0 : Below w.heap.size w (w.alloc (.cells #[.int .i64 x, .int .i64 y, .bool d] 32)) := (Below.refl _ _).alloc (Nat.le_refl _) _
  have r0 := heap_alloc_new w (.cells #[.int .i64 x, .int .i64 y, .bool d] 32)
  obtain ⟨w0, hw0⟩ : ∃ w0, w0 = w.alloc (.cells #[.int .i64 x, .int .i64 y, .bool d] 32) := ⟨_, rfl⟩
  rw [← hw0] at hb0 r0
  obtain ⟨q, hq⟩ := chk_ex L
  have hl := h.len
  obtain ⟨a, c, rfl⟩ := h.form
  obtain ⟨n, hn⟩ : ∃ n, n = L.length := ⟨_, rfl⟩
  rw [← hn] at hl h ⊢
  have HN := Lib.hid hn
  have CK := Lib.hid (rcheck_okD L _ w0 (h.below hb0) hq)
  have H := Lib.hid (h.below hb0)
  have HW := Lib.hid hw0
  have B0 := Lib.hid hb0
  have R0 := Lib.hid r0
  have AP := Lib.hid (fun V => fits14 x y hx hy V)
  obtain ⟨f0, f1, f2⟩ := cells3 (show (w.alloc (.cells #[.int .i64 x, .int .i64 y, .bool d] 32)).heap[w.heap.size]? = _ from heap_alloc_new w _)
  rw [← hw0] at f0 f1 f2
  clear h hb0 r0 hw0 hx hy hn
  rcases hq with ⟨hg, rfl⟩ | ⟨hg, rfl⟩
  · by_cases hfm : FitD x y
    · rw [show decide (FitD x y) = true from decide_eq_true hfm] at AP
      have OKS : Hid (OkD L ∧ FitD x y) := Lib.hid ⟨hg, hfm⟩
      clear hg hfm
      go_enter Try.func20, Try.ntmps20
      go_wp2_with fail
      rw [← HW.out]
      refine CK.out.mono ?_
      rintro e w1 ⟨rfl, hb1⟩
      have B1 := Lib.hid hb1
      obtain ⟨c0, c1, c2⟩ := cells3 (below_block hb1 R0.out)
      clear hb1 f0 f1 f2
      go_wp2_with (first
        | (go_at_call 26; refine (AP.out _).mono ?_; rintro e w2 ⟨rfl, rfl⟩))
      clear c0 c1 c2
      go_loopw [6] (fun i wr => ∃ j : Nat, i = .int .i64 (j : Int) ∧ j ≤ n ∧ Below w0.heap.size w0 wr ∧ ∀ i, i < j → ¬ MeetD (L.getD i default) (x, y, d)) (fun i _ => (n - (intOf i).toNat))
      case atStart => exact ⟨0, rfl, Nat.zero_le _, B1.out, fun i hi => absurd hi (Nat.not_lt_zero _)⟩
      case round =>
        obtain ⟨j, rfl, hj, hB, hlow⟩ := hrel
        have B := Lib.hid hB
        have LOW := Lib.hid hlow
        clear hB hlow
        by_cases hlt : j < n
        · have hjl : j < L.length := by rw [← HN.out]; exact hlt
          obtain ⟨⟨x', y', b⟩, hy⟩ : ∃ y, L.getD j default = y := ⟨_, rfl⟩
          obtain ⟨g, o, rfl, -⟩ := (H.out.below B.out).at_ hjl hy
          have hf := fit_at OKS.out.1.up hjl
          have hm := meet_at (a := (x, y, d)) OKS.out.1.up OKS.out.2 hjl
          rw [hy] at hf hm
          have HY := Lib.hid hy
          have CB : Hid (∀ V, Below w0.heap.size w0 V → (V.cell? ⟨g, o + j * 3, none⟩ = some (.int .i64 x') ∧ V.cell? ⟨g, o + j * 3 + 1, none⟩ = some (.int .i64 y') ∧ V.cell? ⟨g, o + j * 3 + 2, none⟩ = some (.bool b)) ∧ V.cell? ⟨w.heap.size, 0, none⟩ = some (.int .i64 x) ∧ V.cell? ⟨w.heap.size, 1, none⟩ = some (.int .i64 y) ∧ V.cell? ⟨w.heap.size, 2, none⟩ = some (.bool d)) := Lib.hid fun V hV => by
            obtain ⟨g', o', he, -, -, e0, e1, e2⟩ := (H.out.below hV).at_ hjl HY.out
            simp only [Option.some.injEq, Addr.mk.injEq, and_true] at he
            obtain ⟨rfl, rfl⟩ := he
            exact ⟨⟨e0, e1, e2⟩, cells3 (below_block hV R0.out)⟩
          have HF := Lib.hid hf
          have HM := Lib.hid hm
          clear hf hm hy
          by_cases hmt : MeetD (x', y', b) (x, y, d)
          · have NT := Lib.hid (HM.out hmt)
            have hd : decide (MeetD (x', y', b) (x, y, d)) = true := decide_eq_true hmt
            have MT : Hid (∀ V, Calls Try.prog 32 #[.agg #[.int .i64 x', .int .i64 y', .bool b], .agg #[.int .i64 x, .int .i64 y, .bool d]] V fun e w' => e = .returned (.bool true) ∧ Below V.heap.size V w') := Lib.hid fun V => by rw [← hd]; exact meet_okD x' y' b x y d HF.out OKS.out.2 V
            clear hd hmt
            go_wp2_with fail
            go_region_held3 (fun V => (V.cell? ⟨g, o + j * 3, none⟩ = some (.int .i64 x') ∧ V.cell? ⟨g, o + j * 3 + 1, none⟩ = some (.int .i64 y') ∧ V.cell? ⟨g, o + j * 3 + 2, none⟩ = some (.bool b)) ∧ V.cell? ⟨w.heap.size, 0, none⟩ = some (.int .i64 x) ∧ V.cell? ⟨w.heap.size, 1, none⟩ = some (.int .i64 y) ∧ V.cell? ⟨w.heap.size, 2, none⟩ = some (.bool d)) (first | with_reducible exact CB.out _ B.out.drew | with_reducible exact CB.out _ B2.out)
              (first
                | (go_at_call 32; refine (MT.out _).mono ?_; rintro e w2 ⟨rfl, hb2⟩; have B2 := Lib.hid (B.out.drew.trans (hb2.mono (by exact B.out.drew.size))); clear hb2))
            go_wp2
            go_ret2
            exact ⟨_, _, _, rfl, Or.inr ⟨OKS.out, Or.inl ⟨NT.out, rfl, rfl⟩⟩, ArAt.nil _, B0.out.trans (B2.out.mono B0.out.size)⟩
          · have LOW2 : Hid (∀ i, i < j + 1 → ¬ MeetD (L.getD i default) (x, y, d)) := Lib.hid fun i hi => by
              by_cases e : i = j
              · rw [e, HY.out]; exact hmt
              · exact LOW.out i (by omega)
            have hd : decide (MeetD (x', y', b) (x, y, d)) = false := decide_eq_false hmt
            have MT : Hid (∀ V, Calls Try.prog 32 #[.agg #[.int .i64 x', .int .i64 y', .bool b], .agg #[.int .i64 x, .int .i64 y, .bool d]] V fun e w' => e = .returned (.bool false) ∧ Below V.heap.size V w') := Lib.hid fun V => by rw [← hd]; exact meet_okD x' y' b x y d HF.out OKS.out.2 V
            clear hd hmt
            go_wp2_with fail
            go_region_held3 (fun V => (V.cell? ⟨g, o + j * 3, none⟩ = some (.int .i64 x') ∧ V.cell? ⟨g, o + j * 3 + 1, none⟩ = some (.int .i64 y') ∧ V.cell? ⟨g, o + j * 3 + 2, none⟩ = some (.bool b)) ∧ V.cell? ⟨w.heap.size, 0, none⟩ = some (.int .i64 x) ∧ V.cell? ⟨w.heap.size, 1, none⟩ = some (.int .i64 y) ∧ V.cell? ⟨w.heap.size, 2, none⟩ = some (.bool d)) (first | with_reducible exact CB.out _ B.out.drew | with_reducible exact CB.out _ B2.out)
              (first
                | (go_at_call 32; refine (MT.out _).mono ?_; rintro e w2 ⟨rfl, hb2⟩; have B2 := Lib.hid (B.out.drew.trans (hb2.mono (by exact B.out.drew.size))); clear hb2))
            go_wp2
            go_roundw
            case rel => exact ⟨j + 1, by go_num, by omega, B2.out, LOW2.out⟩
            case measure => simp [intOf]; omega
        · obtain rfl : j = n := by omega
          have NT : Hid (∀ p, HasD (x, y, d) p → atD L p = none) := Lib.hid (meet_no (by rw [← HN.out]; exact LOW.out))
          have WI := Lib.hid (fun V (hV : ArAt V (.slice a j c) L) => with_ok L OKS.out.1.up x y d OKS.out.2 NT.out _ V hV)
          obtain ⟨c0, c1, c2⟩ := cells3 (below_block B.out R0.out)
          clear hlt
          go_wp2_with (first
            | (go_at_call 34; refine (WI.out _ (H.out.below B.out)).mono ?_; rintro e w3 ⟨v3, R, rfl, ha3, hu3, he3, hb3⟩; have A3 := Lib.hid ha3; have U3 := Lib.hid hu3; have E3 := Lib.hid he3; have B3 := Lib.hid (B.out.trans (hb3.mono B.out.size)); clear ha3 hu3 he3 hb3)
            | (go_at_call 33; refine (few_ok R (A3.out.len) v3 _ A3.out U3.out E3.out).mono ?_; rintro e w4 ⟨v4, er, M, rfl, ha, hat, hb4⟩; have HA := Lib.hid ha; have AT := Lib.hid hat; have B4 := Lib.hid (B3.out.trans (hb4.mono B3.out.size)); clear ha hat hb4))
          go_ret2
          exact ⟨_, _, _, rfl, Or.inr ⟨OKS.out, Or.inr ⟨NT.out, HA.out⟩⟩, AT.out, B0.out.trans (B4.out.mono B0.out.size)⟩
    · have OKS : Hid (¬ (OkD L ∧ FitD x y)) := Lib.hid fun h => hfm h.2
      rw [show decide (FitD x y) = false from decide_eq_false hfm] at AP
      clear hg hfm
      go_enter Try.func20, Try.ntmps20
      go_wp2_with fail
      rw [← HW.out]
      refine CK.out.mono ?_
      rintro e w1 ⟨rfl, hb1⟩
      have B1 := Lib.hid hb1
      obtain ⟨c0, c1, c2⟩ := cells3 (below_block hb1 R0.out)
      clear hb1 f0 f1 f2
      go_wp2_with (first
        | (go_at_call 26; refine (AP.out _).mono ?_; rintro e w2 ⟨rfl, rfl⟩))
      go_ret2
      exact ⟨_, _, _, rfl, Or.inl ⟨OKS.out, rfl, rfl⟩, ArAt.nil _, B0.out.trans (B1.out.mono B0.out.size)⟩
  · have OKS : Hid (¬ (OkD L ∧ FitD x y)) := Lib.hid fun h => hg h.1
    clear hg
    go_enter Try.func20, Try.ntmps20
    go_wp2_with fail
    rw [← HW.out]
    refine CK.out.mono ?_
    rintro e w1 ⟨rfl, hb1⟩
    have B1 := Lib.hid hb1
    clear hb1 f0 f1 f2
    go_wp2
    go_ret2
    exact ⟨_, _, _, rfl, Or.inl ⟨OKS.out, rfl, rfl⟩, ArAt.nil _, B0.out.trans (B1.out.mono B0.out.size)⟩
end Go.Proofs.Ytmfpoagimedhnaa
