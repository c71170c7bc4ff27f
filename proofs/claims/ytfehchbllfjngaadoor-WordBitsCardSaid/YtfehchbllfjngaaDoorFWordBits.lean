/- The law WordBits returns true for every input, and its arguments read behind the call as they read before. Conditions: none beyond the row's own: the two tables start as the text lays them, which the card ties. -/
import Derived.Test.YtfehchbllfjngaaDoorW12
import Derived.Test.YtfehchbllfjngaaDoorF0
import Derived.Test.YtfehchbllfjngaaDoorTie
import Derived.Test.YtfehchbllfjngaaDoorCards
import Derived.SevenTiedAt
namespace Go.Proofs.YtfehchbllfjngaaDoor
open Go.ChangeShapes Go.WideShapes Go.ChangeAt Go.RowKit Go.Joins

set_option maxRecDepth 100000 in
theorem wordBits_lifted (os : Os) (started : os.Started) (H : Type) (enc : TypeId × Value → H) :
    ReturnsInHanded {} Tryd.checked os 10 .any (fun w args => (Rows.wordBitsSpec.pre enc Tryd.prog Tryd.f10 [] false w args ∧ laidMetH Tryd.prog laidTwo w) ∧ sizedMet enc Tryd.prog Tryd.f10 (OpenSpec.ofChange Rows.wordBitsSpec) false w args)
      (Rows.wordBitsSpec.post enc Tryd.prog Tryd.f10 false true false false) := by
  refine returnsInHanded_of_change_and (C := Tryd.checked) (X := fun w _ => laidMetH Tryd.prog laidTwo w) (fun _ _ _ hh h => h.of_heap hh) Tryd.own started (by kernel_rfl) Tryd.func10
    (ChangeSpec.witness_shaped (enc := enc) (C := Tryd.checked) (os := os) (X := fun w _ => laidMetH Tryd.prog laidTwo w) false (World.doorLaid Tryd.prog 400 os) #[.agg #[.bool false, .bool false, .bool false, .int .i64 0], .int .i64 0] 8 rfl (World.shaped_of_RefB (by kernel_rfl) (by kernel_rfl)) (by kernel_rfl) (by kernel_rfl) (by kernel_rfl) (door_met os _)) ?_
  intro W base args ds gs before hval0 hW _ _ hL _
  have hval : ∀ (j : Nat) t v, Tryd.f10.params[j]? = some t → args[j]? = some v → Value.okWide Tryd.prog W .any base t v := hval0
  have hW' := hW
  obtain ⟨p, q, hA0, hV, rfl, hfz, hnd⟩ := hW
  have hA : DataW.TrodAll enc Tryd.prog W 0 (fun _ => true) true Tryd.f10.params.toList args.toList ds p := hA0
  rw [Tryd.params10] at hA hval
  obtain ⟨v0, v1, d0, d1, p0, p1, rfl, rfl, rfl, h0, h1⟩ := trodAll_two hA
  obtain ⟨rfl, rfl⟩ := trodVars_none hV
  obtain ⟨c00, c01, c02, c03, y00, y01, y02, y03, m0, rfl, rfl, rfl, hy00, hy01, hy02, hy03⟩ := open_agg4 Tryd.underlying23 (by kernel_rfl) (by kernel_rfl) (hval 0 23 v0 rfl rfl) h0
  obtain ⟨p00, e00, rfl⟩ := DataW.trod_bool Tryd.underlying4 hy00
  obtain ⟨p01, e01, rfl⟩ := DataW.trod_bool Tryd.underlying4 hy01
  obtain ⟨p02, e02, rfl⟩ := DataW.trod_bool Tryd.underlying4 hy02
  obtain ⟨n0, e03, rfl, wn0⟩ := DataW.trod_int Tryd.underlying3 hy03
  simp at e00 e01 e02 e03
  subst e00 e01 e02 e03
  have reads0 : ∀ (W' : World) (sp : Nat → Bool), DataW.Trod enc Tryd.prog W' 0 sp true 23 (.agg #[.bool p00, .bool p01, .bool p02, .int .i64 n0]) (.agg [.lit (.bool p00), .lit (.bool p01), .lit (.bool p02), .lit (.int .i64 n0)]) [] := fun W' sp =>
    shut_agg4 (y0 := (.lit (.bool p00), [])) (y1 := (.lit (.bool p01), [])) (y2 := (.lit (.bool p02), [])) (y3 := (.lit (.int .i64 n0), [])) Tryd.underlying23 (by kernel_rfl) (by kernel_rfl) ⟨1, by simp [DataW.trod, Tryd.underlying4]⟩ ⟨1, by simp [DataW.trod, Tryd.underlying4]⟩ ⟨1, by simp [DataW.trod, Tryd.underlying4]⟩ ⟨1, by simp [DataW.trod, Tryd.underlying3, wn0]⟩
  obtain ⟨x1, rfl, rfl, rfl, wx1⟩ := open_int Tryd.underlying3 (hval 1 3 v1 rfl rfl) h1
  clear hA0 hval0
  simp only [List.append_nil] at hW'
  refine (lawBits_walk p00 p01 p02 n0 x1 W (bounds_i64 wn0) (bounds_i64 wx1) (laidW_of hL)).mono fun e W' ⟨he, hb⟩ => ?_
  subst he
  have e1 : (Rows.wordBitsSpec.fn H ([.agg [.lit (.bool p00), .lit (.bool p01), .lit (.bool p02), .lit (.int .i64 n0)], .lit (.int .i64 x1)] ++ [])) = { results := [.lit (.bool true)], args := [.agg [.lit (.bool p00), .lit (.bool p01), .lit (.bool p02), .lit (.int .i64 n0)], .lit (.int .i64 x1)] } := rfl
  refine ⟨_, rfl, _, _, _, [], [], [], hW', ?_, ?_, ?_, hb.frame _, fun h => by cases h⟩
  · rw [e1]; exact trodAll_mk1 (shut_bool Tryd.underlying4 true)
  · rw [e1]; exact (fun sp => trodAll_mk2 (reads0 _ sp) (shut_int Tryd.underlying3 wx1)) _
  · rw [e1]; rfl

theorem wordBits_holds : Rows.WordBitsSaid :=
  OpenClaim.holds_of_wide 10 Tryd.f10 rfl rfl rfl rfl rfl rfl rfl ⟨rfl, rfl, rfl, rfl, rfl⟩ rfl rfl rfl rfl rfl (by kernel_rfl) Tryd.func10 (by kernel_rfl)
    (of_decide_eq_true (by kernel_rfl)) (by unfold Func.isWrapper; rw [if_neg (of_decide_eq_false (by kernel_rfl))]; exact ⟨rfl, rfl⟩)
    (fun os started H enc _ => wordBits_lifted os started H enc)

/-- The card. -/
theorem wordBits_card : Rows.WordBitsCardSaid :=
  Claim7.holds_tied_plain_at .later [] [.data, .data] true Rows.wordBitsCard.stood.harness false
    wordBits_holds (fun _ h => by cases h) (by kernel_rfl) (fun _ h => by cases h) wordBits_row_tie rfl ⟨rfl, rfl⟩ (by kernel_rfl) rfl
    (fun f fn hf hfn => by
      obtain rfl : f = 10 := Option.some.inj ((show Tryd.prog.funcNamed "priory/priorylaw01.WordBits" = some 10 by kernel_rfl).symm.trans hf) |>.symm
      obtain rfl : fn = Tryd.f10 := (Option.some.inj (Tryd.func10.symm.trans hfn)).symm
      exact ⟨by kernel_rfl, fun j t ht => by
        rw [Tryd.params10] at ht
        have hm : t ∈ [23, 3] := by simpa using Array.mem_of_getElem? ht
        have hall : ([23, 3].all fun u => !Tryd.prog.wantsStandIn u) = true := by kernel_rfl
        exact (show Tryd.prog.wantsStandIn t = false by simpa using List.all_eq_true.1 hall t hm)⟩)
    (by kernel_rfl)
end Go.Proofs.YtfehchbllfjngaaDoor
