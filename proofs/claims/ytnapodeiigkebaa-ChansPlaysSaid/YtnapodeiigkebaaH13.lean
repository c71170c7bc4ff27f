/- The walk of ChansNone. Condition: the configuration and the slice lie as they came in. -/
import Derived.Test.YtnapodeiigkebaaIW
import Derived.Test.YtnapodeiigkebaaOR
namespace Go.Proofs.Ytnapodeiigkebaa
open Go.RowKit
set_option maxRecDepth 100000

/-- No channels, behind what leaves them none. -/
structure NilH (p : Option Addr) (w : World) : Prop where
  no : NoCh w p
theorem NilH.end_ {p : Option Addr} {w : World} (h : NilH p w) (part ch : Int) (send : Bool) : EndP (.pointer p) part ch send chZ 1 w := endP_err (findP_no h.no ch) (by decide) part send
theorem NilH.below {p : Option Addr} {w w' : World} (h : NilH p w) (hb : Below w.heap.size w w') : NilH p w' := ⟨h.no.below hb⟩
def NoneRelH (b : Nat) (w1 : World) (s i : Value) (wr : World) : Prop := (s = .pointer none ∧ (i = .int .i64 0 ∨ i = .int .i64 1) ∨ (s = .pointer (some ⟨b, 0, none⟩) ∧ i = .int .i64 2)) ∧ Below w1.heap.size w1 wr
set_option maxHeartbeats 2000000 in
theorem chansNone_walk (v : Value) (C : Cf) (part ch : Int) (u : Value) (M : List Int) (W : World) (hC : ConfIn W v C) (_hp : I64 part) (_hc : I64 ch) (hM : ArgMs W u M) : Calls Try.prog 6 #[v, .int .i64 part, .int .i64 ch, u] W fun e w' => e = .returned (.bool true) ∧ Below W.heap.size W w' := by
  obtain ⟨aa1, na1, ma1, aa2, na2, ma2, aa3, na3, ma3, rfl⟩ := hC.slices
  obtain ⟨ua, uc, rfl, -⟩ := hM
  obtain ⟨w1, hw1⟩ : ∃ w1, w1 = W.alloc (.cells #[.slice aa1 na1 ma1, .slice aa2 na2 ma2, .slice aa3 na3 ma3] 26) := ⟨_, rfl⟩
  have hb1 : Below W.heap.size W w1 := by rw [hw1]; exact below_step1 _ _
  have K := Lib.hid hb1
  have IA := Lib.hid (hC.below hb1)
  have XA : Hid (CBox w1 W.heap.size (.slice aa1 na1 ma1) (.slice aa2 na2 ma2) (.slice aa3 na3 ma3)) := Lib.hid (by rw [hw1]; exact CBox.new W _ _ _)
  have x0 := XA.out.c0
  have x1 := XA.out.c1
  have x2 := XA.out.c2
  clear hC hb1
  by_cases la : longC C
  · have LA := Lib.hid (long20_yes _ C w1 IA.out la)
    clear la
    go_enter Try.func6, Try.ntmps6
    go_wp2_with fail
    rw [← hw1]
    clear hw1
    refine LA.out.mono ?_
    rintro e w2 ⟨rfl, hb⟩
    have K2 := Lib.hid (K.out.trans (hb.mono K.out.size))
    clear hb
    go_wp2_with fail
    refine (awake20 _).mono ?_
    rintro e w3 ⟨rfl, hb⟩
    have K3 := Lib.hid (K2.out.trans (hb.mono K2.out.size))
    clear hb
    go_wp2
    go_ret
    exact ⟨rfl, K3.out⟩
  have LA := Lib.hid (long20_no _ _ _ C w1 (IA.out.at_ la) la)
  clear la
  by_cases lm : 100 < M.length
  · have d0 : decide (100 < M.length) = true := decide_eq_true lm
    generalize M.length = n at d0 lm ⊢
    go_enter Try.func6, Try.ntmps6
    go_wp2_with fail
    rw [← hw1]
    clear hw1
    refine LA.out.mono ?_
    rintro e w2 ⟨rfl, hb⟩
    have K2 := Lib.hid (K.out.trans (hb.mono K.out.size))
    clear hb
    go_wp2_with fail
    refine (awake20 _).mono ?_
    rintro e w3 ⟨rfl, hb⟩
    have K3 := Lib.hid (K2.out.trans (hb.mono K2.out.size))
    clear hb
    go_wp2
    go_ret
    exact ⟨rfl, K3.out⟩
  have d0 : decide (100 < M.length) = false := decide_eq_false lm
  generalize M.length = n at d0 lm ⊢
  go_enter Try.func6, Try.ntmps6
  go_wp2_with fail
  rw [← hw1]
  clear hw1 x0 x1 x2
  refine LA.out.mono ?_
  rintro e w2 ⟨rfl, hb⟩
  have K2 := Lib.hid (K.out.trans (hb.mono K.out.size))
  have X2 := Lib.hid (XA.out.below hb)
  clear hb
  obtain ⟨w3, hw3⟩ : ∃ w3, w3 = w2.alloc (.cells #[.pointer none, .slice none 0 0] 70) := ⟨_, rfl⟩
  have b3 : Below w2.heap.size w2 w3 := by rw [hw3]; exact below_step1 _ _
  have K3 := Lib.hid (K2.out.trans (b3.mono K2.out.size))
  have X3 := Lib.hid (X2.out.below b3)
  obtain ⟨ob, hob⟩ : ∃ ob, ob = w2.heap.size := ⟨_, rfl⟩
  have N3 : Hid (NilH (some ⟨ob, 0, none⟩) w3) := Lib.hid ⟨Or.inr ⟨ob, rfl, by rw [hw3, hob, cell_of_row _ _ _ _ _ _ (heap_alloc_new w2 _)]; rfl, by rw [hw3, hob]; simp⟩⟩
  have NN : Hid (∀ V, NilH none V) := Lib.hid fun _ => ⟨Or.inl rfl⟩
  have HW := Lib.hid hw3
  have HO := Lib.hid hob
  clear b3 hw3 hob
  go_wp2_with fail
  rw [← HW.out, ← HO.out]
  clear HW HO
  go_loopw [9, 11] (fun s i wr => NoneRelH ob w3 s i wr) (fun _ i _ => (2 - (intOf i).toNat))
  case atStart => exact ⟨Or.inl ⟨rfl, Or.inl rfl⟩, Below.refl _ _⟩
  case round =>
    obtain ⟨hs, hb⟩ := hrel
    have B := Lib.hid hb
    clear hb
    rcases hs with ⟨rfl, rfl | rfl⟩ | ⟨rfl, rfl⟩
    · go_wp2_with (first
        | (go_at_call 23; refine (recvH_no ((NN.out _).end_ part ch false) (by decide)).mono ?_; rintro e w4 ⟨rfl, hb⟩; have B4 := Lib.hid (B.out.trans (hb.mono B.out.size)); clear hb)
        | (go_at_call 28; refine (nextH_no ((NN.out _).end_ part ch false) (by decide)).mono ?_; rintro e w5 ⟨rfl, hb⟩; have B5 := Lib.hid (B4.out.trans (hb.mono B4.out.size)); clear hb)
        | (go_at_call 22; refine (sendH_no ((NN.out _).end_ part ch true) (by decide) _).mono ?_; rintro e w6 ⟨rfl, hb⟩; have B6 := Lib.hid (B5.out.trans (hb.mono B5.out.size)); clear hb)
        | (go_at_call 16; refine (mayH_ok ((NN.out _).end_ part ch true) rfl chZOne).mono ?_; rintro e w7 ⟨rfl, hb⟩; have B7 := Lib.hid (B6.out.trans (hb.mono B6.out.size)); clear hb)
        | (go_at_call 20; refine (wordsH_no (findP_no (NN.out _).no ch)).mono ?_; rintro e w8 ⟨rfl, hb⟩; have B8 := Lib.hid (B7.out.trans (hb.mono B7.out.size)); clear hb)
        | (go_at_call 18; refine (roomH_no (findP_no (NN.out _).no ch) (by decide)).mono ?_; rintro e w9 ⟨rfl, hb⟩; have B9 := Lib.hid (B8.out.trans (hb.mono B8.out.size)); clear hb))
      go_roundw
      case rel => exact ⟨Or.inl ⟨rfl, Or.inr rfl⟩, B9.out⟩
      case measure => simp [intOf]
    · go_wp2_with (first
        | (go_at_call 23; refine (recvH_no ((N3.out.below B.out).end_ part ch false) (by decide)).mono ?_; rintro e w4 ⟨rfl, hb⟩; have B4 := Lib.hid (B.out.trans (hb.mono B.out.size)); clear hb)
        | (go_at_call 28; refine (nextH_no ((N3.out.below B4.out).end_ part ch false) (by decide)).mono ?_; rintro e w5 ⟨rfl, hb⟩; have B5 := Lib.hid (B4.out.trans (hb.mono B4.out.size)); clear hb)
        | (go_at_call 22; refine (sendH_no ((N3.out.below B5.out).end_ part ch true) (by decide) _).mono ?_; rintro e w6 ⟨rfl, hb⟩; have B6 := Lib.hid (B5.out.trans (hb.mono B5.out.size)); clear hb)
        | (go_at_call 16; refine (mayH_ok ((N3.out.below B6.out).end_ part ch true) rfl chZOne).mono ?_; rintro e w7 ⟨rfl, hb⟩; have B7 := Lib.hid (B6.out.trans (hb.mono B6.out.size)); clear hb)
        | (go_at_call 20; refine (wordsH_no (findP_no (N3.out.below B7.out).no ch)).mono ?_; rintro e w8 ⟨rfl, hb⟩; have B8 := Lib.hid (B7.out.trans (hb.mono B7.out.size)); clear hb)
        | (go_at_call 18; refine (roomH_no (findP_no (N3.out.below B8.out).no ch) (by decide)).mono ?_; rintro e w9 ⟨rfl, hb⟩; have B9 := Lib.hid (B8.out.trans (hb.mono B8.out.size)); clear hb))
      go_roundw
      case rel => exact ⟨Or.inr ⟨rfl, rfl⟩, B9.out⟩
      case measure => simp [intOf]
    · have x0 := (X3.out.below B.out).c0
      have x1 := (X3.out.below B.out).c1
      have x2 := (X3.out.below B.out).c2
      have NW := Lib.hid (newH_no none (.slice aa1 na1 ma1) (.slice aa2 na2 ma2) (.slice aa3 na3 ma3) wr (fun _ _ => Or.inl rfl))
      have B0 := Lib.hid (K3.out.trans (B.out.mono K3.out.size))
      go_wp2_with (first
        | (go_at_call 11; refine NW.out.mono ?_; rintro e w4 ⟨rfl, hb⟩; have B4 := Lib.hid (B0.out.trans (hb.mono B0.out.size)); clear hb)
        | (go_at_call 9; refine (awake20 _).mono ?_; rintro e w7 ⟨rfl, hb⟩; have B7 := Lib.hid (B4.out.trans (hb.mono B4.out.size)); clear hb))
      go_ret
      exact ⟨rfl, B7.out⟩
end Go.Proofs.Ytnapodeiigkebaa
