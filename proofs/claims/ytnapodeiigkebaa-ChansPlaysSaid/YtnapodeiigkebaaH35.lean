/- What the walk of ChansPlays begins with, and its ways that have no calls. Conditions: named in the theorems. -/
import Derived.Test.YtnapodeiigkebaaH34
namespace Go.Proofs.Ytnapodeiigkebaa
open Go.RowKit
set_option maxRecDepth 100000

section
variable {W w w' : World} {v1 v2 v3 : Value} {C : Cf} {X : ChX} {rb T : Nat} {Q : Msgs}
theorem PySt.words (hX : X.H = C.2.2) (ch : Int) {V : World} (hV : PySt W V v1 v2 v3 C X rb T Q) : Calls Try.prog 20 #[.pointer (some ⟨X.xb, 0, none⟩), .int .i64 ch] V fun e w' => e = .returned (.int .i64 (wordsN C.2.2 ch)) ∧ Below V.heap.size V w' := by
  obtain ⟨f, L, h1⟩ := hV.x
  exact (h1.words ch (by rw [hX])).mono fun e w' ⟨e1, _, hb⟩ => ⟨e1, hb⟩
theorem PySt.start {ff : Nat → Nat} {L : List Int} {lv : Value} (h : OwnH W w X ff L Q0) (hb : CBox w W.heap.size v1 v2 v3) (hc : CfAt W v1 v2 v3 C) (hr : RChAt W w' C.2.2 v3 lv nils noOut 0 Q0) (hw : Below w.heap.size w w') : PySt W (w'.alloc (.cells #[v3, lv] 41)) v1 v2 v3 C X w'.heap.size 0 Q0 := by
  have b := hw.trans ((below_step1 w' (.cells #[v3, lv] 41)).mono hw.size)
  exact ⟨⟨ff, L, h.step b⟩, ⟨⟨lv, nils, noOut, heap_alloc_new w' _, hr.step (below_step1 w' _)⟩, hr.bel.size⟩, hb.below b, hc⟩
end
set_option maxHeartbeats 1000000 in
theorem plays_far {v1 v2 v3 : Value} {C : Cf} {W : World} (CF : CfAt W v1 v2 v3 C) (hl : ¬ longC C) (n : Int) (ua : Option Addr) (ns uc : Nat) (hn : 100 < ns) :
    Calls Try.prog 3 #[.agg #[v1, v2, v3], .int .i64 n, .slice ua ns uc] W fun e w' => e = .returned (.bool true) ∧ Below W.heap.size W w' := by
  have V1 := Lib.hid (CvH.new CF)
  have LA := Lib.hid (long20_no _ _ _ C _ V1.out.conf hl)
  have d3 : decide (100 < ns) = true := decide_eq_true hn
  clear CF hl
  go_enter Try.func3, Try.ntmps3
  go_wp2_with fail
  refine LA.out.mono ?_
  rintro e w2 ⟨rfl, hb⟩
  have V2 := Lib.hid (V1.out.step hb)
  clear hb
  go_wp2_with fail
  refine (awake20 _).mono ?_
  rintro e w3 ⟨rfl, hb⟩
  have V3 := Lib.hid (V2.out.step hb)
  clear hb
  go_wp2
  go_ret
  exact ⟨rfl, V3.out.below⟩
/-- New of layer 2 refuses; so does New. -/
theorem plays_mem {v1 v2 v3 : Value} {C : Cf} {W : World} (CF : CfAt W v1 v2 v3 C) (hl : ¬ longC C) (n : Int) (hn : n < 1 ∨ 1024 < n) (ua : Option Addr) (ns uc : Nat) (hs : ¬ 100 < ns) :
    Calls Try.prog 3 #[.agg #[v1, v2, v3], .int .i64 n, .slice ua ns uc] W fun e w' => e = .returned (.bool true) ∧ Below W.heap.size W w' := by
  have V1 := Lib.hid (CvH.new CF)
  have LA := Lib.hid (long20_no _ _ _ C _ V1.out.conf hl)
  have KA := Lib.hid fun V (h : CvH W V v1 v2 v3 C) => rcheck_ok _ _ _ C V h.conf
  have NM := Lib.hid fun V => new_bad n V hn
  have NW := Lib.hid fun V => newH_no none v1 v2 v3 V (fun _ _ => Or.inl rfl)
  have d3 : decide (100 < ns) = false := decide_eq_false hs
  generalize chk C = k at KA
  clear CF hl
  go_enter Try.func3, Try.ntmps3
  go_wp2_with fail
  refine LA.out.mono ?_
  rintro e w2 ⟨rfl, hb⟩
  have V2 := Lib.hid (V1.out.step hb)
  clear hb
  go_wp2_with fail
  refine (NM.out _).mono ?_
  rintro e w3 ⟨rfl, rfl⟩
  have x0 := V2.out.box.c0
  have x1 := V2.out.box.c1
  have x2 := V2.out.box.c2
  go_wp2_with fail
  refine (NW.out _).mono ?_
  rintro e w4 ⟨rfl, hb⟩
  have V4 := Lib.hid (V2.out.step hb)
  have x0 := V4.out.box.c0
  have x1 := V4.out.box.c1
  have x2 := V4.out.box.c2
  clear hb
  go_wp2_with fail
  refine (KA.out _ V4.out).mono ?_
  rintro e w5 ⟨rfl, hb⟩
  have V5 := Lib.hid (V4.out.step hb)
  clear hb x0 x1 x2
  go_wp2_with fail
  refine (awake20 _).mono ?_
  rintro e w6 ⟨rfl, hb⟩
  have V6 := Lib.hid (V5.out.step hb)
  clear hb
  go_wp2
  go_ret
  exact ⟨rfl, V6.out.below⟩
set_option maxHeartbeats 1000000 in
/-- New alone refuses. -/
theorem plays_bad {v1 v2 v3 : Value} {C : Cf} {W : World} (CF : CfAt W v1 v2 v3 C) (hl : ¬ longC C) (N : Nat) (h0 : 1 ≤ N) (h1 : N ≤ 1024) (ua : Option Addr) (ns uc : Nat) (hs : ¬ 100 < ns) (h : chk C ≠ 0 ∨ chk C = 0 ∧ (N : Int) < framesC C) :
    Calls Try.prog 3 #[.agg #[v1, v2, v3], .int .i64 (N : Int), .slice ua ns uc] W fun e w' => e = .returned (.bool true) ∧ Below W.heap.size W w' := by
  have V1 := Lib.hid (CvH.new CF)
  have LA := Lib.hid fun V (h : CvH W V v1 v2 v3 C) => long20_no _ _ _ C V h.conf hl
  have KA := Lib.hid fun V (h : CvH W V v1 v2 v3 C) => rcheck_ok _ _ _ C V h.conf
  have FA := Lib.hid fun V (h : CvH W V v1 v2 v3 C) => rframes_ok _ _ _ C V h.conf
  have NM := Lib.hid fun V => new_ok N V h0 h1
  have d3 : decide (100 < ns) = false := decide_eq_false hs
  obtain ⟨er, k, hke, hne, NW⟩ : ∃ er k : Int, (k ≠ 0 ∧ er = k ∨ k = 0 ∧ er = 2 ∧ (N : Int) < framesA C) ∧ chk C = k ∧ ∀ V mp fb, OwnMem W V mp fb N (List.replicate (N * 32) 0) → CvH W V v1 v2 v3 C → Calls Try.prog 11 #[.pointer (some ⟨mp, 0, none⟩), .agg #[v1, v2, v3]] V fun e w' => e = .returned (.tuple #[.pointer none, .int .i64 er]) ∧ Below V.heap.size V w' := by
    rcases h with h | ⟨h, h2⟩
    · exact ⟨chk C, chk C, Or.inl ⟨h, rfl⟩, rfl, fun V mp fb hM hc => newH_bad hM.st hc.conf h⟩
    · have fa : framesA C = framesC C := by unfold framesA; rw [if_pos (chk_zero h).1]
      exact ⟨2, 0, Or.inr ⟨rfl, rfl, by rw [fa]; exact h2⟩, h, fun V mp fb hM hc => newH_few hM.st hc.conf h h2⟩
  rw [hne] at KA
  have NW := Lib.hid NW
  generalize framesA C = fa at FA hke
  clear CF hl h hne
  rcases hke with ⟨hk, rfl⟩ | ⟨rfl, rfl, hf⟩
  · have g0 : (er == 0) = false := by simpa using hk
    have g1 : (er != 0) = true := by simpa using hk
    have g2 : (er != er) = false := by simp
    clear FA
    go_enter Try.func3, Try.ntmps3
    go_wp2_with fail
    refine (LA.out _ V1.out).mono ?_
    rintro e w2 ⟨rfl, hb⟩
    have V2 := Lib.hid (V1.out.step hb)
    clear hb
    go_wp2_with fail
    refine (NM.out _).mono ?_
    intro e w3 hp
    obtain ⟨mp, fb, rfl, hm⟩ := OwnMem.new hp
    have V3 := Lib.hid (V2.out.step hm.below)
    have M3 := Lib.hid (OwnMem.late V2.out.below hm)
    have x0 := V3.out.box.c0
    have x1 := V3.out.box.c1
    have x2 := V3.out.box.c2
    clear hm hp
    go_wp2_with fail
    refine (NW.out _ _ _ M3.out V3.out).mono ?_
    rintro e w4 ⟨rfl, hb⟩
    have V4 := Lib.hid (V3.out.step hb)
    have x0 := V4.out.box.c0
    have x1 := V4.out.box.c1
    have x2 := V4.out.box.c2
    clear hb
    go_wp2_with fail
    refine (KA.out _ V4.out).mono ?_
    rintro e w5 ⟨rfl, hb⟩
    have V5 := Lib.hid (V4.out.step hb)
    clear hb x0 x1 x2
    go_wp2_with fail
    refine (awake20 _).mono ?_
    rintro e w6 ⟨rfl, hb⟩
    have V6 := Lib.hid (V5.out.step hb)
    clear hb
    go_wp2
    go_ret
    exact ⟨rfl, V6.out.below⟩
  · have g0 : decide ((N : Int) < fa) = true := decide_eq_true hf
    go_enter Try.func3, Try.ntmps3
    go_wp2_with fail
    refine (LA.out _ V1.out).mono ?_
    rintro e w2 ⟨rfl, hb⟩
    have V2 := Lib.hid (V1.out.step hb)
    clear hb
    go_wp2_with fail
    refine (NM.out _).mono ?_
    intro e w3 hp
    obtain ⟨mp, fb, rfl, hm⟩ := OwnMem.new hp
    have V3 := Lib.hid (V2.out.step hm.below)
    have M3 := Lib.hid (OwnMem.late V2.out.below hm)
    have x0 := V3.out.box.c0
    have x1 := V3.out.box.c1
    have x2 := V3.out.box.c2
    clear hm hp
    go_wp2_with fail
    refine (NW.out _ _ _ M3.out V3.out).mono ?_
    rintro e w4 ⟨rfl, hb⟩
    have V4 := Lib.hid (V3.out.step hb)
    have x0 := V4.out.box.c0
    have x1 := V4.out.box.c1
    have x2 := V4.out.box.c2
    clear hb
    go_wp2_with fail
    refine (KA.out _ V4.out).mono ?_
    rintro e w5 ⟨rfl, hb⟩
    have V5 := Lib.hid (V4.out.step hb)
    have x0 := V5.out.box.c0
    have x1 := V5.out.box.c1
    have x2 := V5.out.box.c2
    clear hb
    go_wp2_with fail
    refine (FA.out _ V5.out).mono ?_
    rintro e w6 ⟨rfl, hb⟩
    have V6 := Lib.hid (V5.out.step hb)
    clear hb x0 x1 x2
    go_wp2_with fail
    refine (awake20 _).mono ?_
    rintro e w7 ⟨rfl, hb⟩
    have V7 := Lib.hid (V6.out.step hb)
    clear hb
    go_wp2
    go_ret
    exact ⟨rfl, V7.out.below⟩
end Go.Proofs.Ytnapodeiigkebaa
