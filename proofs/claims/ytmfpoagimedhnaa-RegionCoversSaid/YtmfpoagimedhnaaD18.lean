/- What the sentinel of layer 14's laws does: some answers that the document fixes. No condition. -/
import Derived.Test.YtmfpoagimedhnaaD9
namespace Go.Proofs.Ytmfpoagimedhnaa
open Go.RowKit Go.Maps
set_option maxRecDepth 100000

theorem aw_up1 : UpD [((3 : Int), (2 : Int), true)] := UpD.sing (by unfold FitD; decide)
theorem aw_up2 : UpD [((3 : Int), (3 : Int), true)] := UpD.sing (by unfold FitD; decide)
theorem aw_up3 : UpD [((3 : Int), (1 : Int), true), (4, 1, false), (5, 1, true)] := ⟨fun x hx => by
  simp only [List.mem_cons, List.not_mem_nil, or_false] at hx
  rcases hx with rfl | rfl | rfl <;> (unfold FitD; decide), by
  simp [FolD]⟩
theorem aw_add {er : Int} {M : List Ar} (h : AddD [(3, 2, true)] (5, 1, true) er M) : er = 0 ∧ M = [(3, 3, true)] := by
  refine h.uniq (Or.inr ⟨⟨⟨by simp, aw_up1⟩, by unfold FitD; decide⟩, Or.inr ⟨fun p hp => ?_, AnsD.few aw_up2 (fun p => ?_) (by simp)⟩⟩)
  · rw [atD, if_neg (by unfold HasD at hp ⊢; simp only at hp ⊢; omega)]; rfl
  · unfold withD
    by_cases h1 : HasD ((5 : Int), (1 : Int), true) p
    · rw [if_pos h1, atD, if_pos (by unfold HasD at h1 ⊢; simp only at h1 ⊢; omega)]
    · rw [if_neg h1]
      simp only [atD]
      by_cases h2 : HasD ((3 : Int), (2 : Int), true) p
      · rw [if_pos h2, if_pos (by unfold HasD at h2 ⊢; simp only at h2 ⊢; omega)]
      · rw [if_neg h2, if_neg (by unfold HasD at h1 h2 ⊢; simp only at h1 h2 ⊢; omega)]
theorem aw_set {er : Int} {M : List Ar} (h : SetD [(3, 3, true)] 4 1 false er M) : er = 0 ∧ M = [(3, 1, true), (4, 1, false), (5, 1, true)] := by
  refine h.uniq (Or.inr ⟨⟨⟨by simp, aw_up2⟩, by unfold FitD; decide⟩, Or.inr ⟨fun p h1 h2 => ?_, AnsD.few aw_up3 (fun p => ?_) (by simp)⟩⟩)
  · rw [atD, if_pos (by unfold HasD; simp only; omega)]; simp
  · unfold withD
    simp only [atD]
    by_cases a1 : HasD ((4 : Int), (1 : Int), false) p
    · rw [if_pos a1, if_neg (by unfold HasD at a1 ⊢; simp only at a1 ⊢; omega), if_pos a1]
    · rw [if_neg a1, if_neg a1]
      by_cases a2 : HasD ((3 : Int), (1 : Int), true) p
      · rw [if_pos a2, if_pos (by unfold HasD at a2 ⊢; simp only at a2 ⊢; omega)]
      · rw [if_neg a2]
        by_cases a3 : HasD ((5 : Int), (1 : Int), true) p
        · rw [if_pos a3, if_pos (by unfold HasD at a3 ⊢; simp only at a3 ⊢; omega)]
        · rw [if_neg a3, if_neg (by unfold HasD at a1 a2 a3 ⊢; simp only at a1 a2 a3 ⊢; omega)]
theorem aw_cut {er : Int} {M : List Ar} (h : CutD [(3, 3, true)] 2 2 er M) : er = 4 ∧ M = [] := by
  refine h.uniq (Or.inr ⟨⟨⟨by simp, aw_up2⟩, by unfold FitD; decide⟩, Or.inl ⟨fun hc => hc 2 (by omega) (by omega) ?_, rfl, rfl⟩⟩)
  rw [atD, if_neg (by unfold HasD; decide)]; rfl
set_option maxHeartbeats 2000000 in
theorem awake14 (W : World) : Calls Try.prog 10 #[] W fun e w' => e = .returned (.bool true) ∧ Below W.heap.size W w' := by
  have B0 : Hid (Below W.heap.size W (W.alloc (.cells #[.int .i64 3, .int .i64 2, .bool true] 32))) := Lib.hid ((Below.refl _ _).alloc (Nat.le_refl _) _)
  have A0 : Hid (ArAt (W.alloc (.cells #[.int .i64 3, .int .i64 2, .bool true] 32)) (.slice (some ⟨W.heap.size, 0, none⟩) 1 1) [(3, 2, true)]) := Lib.hid ⟨_, _, rfl, by simp, fun x hx => by rw [List.mem_singleton.1 hx]; unfold WideD I64; decide, Or.inr ⟨W.heap.size, 0, rfl, by simp, fun i hi => by
    obtain rfl : i = 0 := by simp at hi; omega
    exact cells3 (heap_alloc_new W _)⟩⟩
  go_enter Try.func10, Try.ntmps10
  go_wp2_with fail
  refine (Add_okD [(3, 2, true)] _ 5 1 true (by decide) (by decide) _ A0.out).mono ?_
  rintro e w1 ⟨v1, er, M, rfl, ha, hat, hb⟩
  obtain ⟨rfl, rfl⟩ := aw_add ha
  obtain ⟨a1, c1, rfl⟩ := hat.form
  have A1 := Lib.hid hat
  have B1 := Lib.hid (B0.out.trans (hb.mono B0.out.size))
  clear ha hat hb
  simp only [List.length_cons, List.length_nil, Nat.zero_add] at A1 ⊢
  go_wp2_with fail
  refine (Set_okD [(3, 3, true)] _ 4 1 false (by decide) (by decide) _ A1.out).mono ?_
  rintro e w2 ⟨v2, er, M, rfl, ha, hat, hb⟩
  obtain ⟨rfl, rfl⟩ := aw_set ha
  obtain ⟨a2, c2, rfl⟩ := hat.form
  have A2 := Lib.hid (A1.out.below hb)
  have B2 := Lib.hid (B1.out.trans (hb.mono B1.out.size))
  clear ha hat hb
  simp only [List.length_cons, List.length_nil, Nat.zero_add]
  go_wp2_with fail
  refine (Cut_okD [(3, 3, true)] _ 2 2 (by decide) (by decide) _ A2.out).mono ?_
  rintro e w3 ⟨v3, er, M, rfl, ha, hat, hb⟩
  obtain ⟨rfl, rfl⟩ := aw_cut ha
  obtain ⟨a3, c3, rfl⟩ := hat.form
  have B3 := Lib.hid (B2.out.trans (hb.mono B2.out.size))
  obtain ⟨g, o, rfl, -, -, d0, d1, d2⟩ := (A2.out.below hb).at_ (i := 0) (x := (3, 3, true)) (by simp) rfl
  simp only [Nat.zero_mul, Nat.add_zero] at d0 d1 d2
  clear ha hat hb
  simp only [List.length_nil]
  go_wp2
  go_ret
  exact ⟨rfl, B3.out⟩
end Go.Proofs.Ytmfpoagimedhnaa
