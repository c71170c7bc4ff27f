/- The law SpaceZero returns true for every input, and its arguments read behind the call as they read before. Conditions: none beyond the row's own: the masks and the library's two tables start as the text lays them, which the card ties. -/
import Derived.Test.YtfpcoomkbmfchaaGreatDoorS47
import Derived.Test.YtfpcoomkbmfchaaGreatDoorHY
import Derived.Test.YtfpcoomkbmfchaaGreatDoorGNL
import Derived.Test.YtfpcoomkbmfchaaGreatDoorTie
import Derived.Test.YtfpcoomkbmfchaaGreatDoorCards
import Derived.SevenTiedAt
namespace Go.Proofs.YtfpcoomkbmfchaaGreatDoor
open Go.ChangeShapes Go.WideShapes Go.ChangeAt Go.RowKit Go.Joins
set_option maxRecDepth 100000

theorem spaceZero_lifted (os : Os) (started : os.Started) (H : Type) (enc : TypeId × Value → H) :
    ReturnsInHanded {} Tryz.checked os 8 .any (fun w args => (Rows.spaceZeroSpec.pre enc Tryz.prog Tryz.f8 [] false w args ∧ laidMetH Tryz.prog laidThree w) ∧ sizedMet enc Tryz.prog Tryz.f8 (OpenSpec.ofChange Rows.spaceZeroSpec) false w args)
      (Rows.spaceZeroSpec.post enc Tryz.prog Tryz.f8 false true false false) := by
  refine card_lifted_at laidN_of (tb := 4) started (by kernel_rfl) Tryz.func8 rfl rfl Tryz.underlying4 (by kernel_rfl)
    (fun ds h => by match ds, h with | [_, _], _ => rfl)
    (ChangeSpec.witness_shaped (enc := enc) (C := Tryz.checked) (os := os) (X := fun w _ => laidMetH Tryz.prog laidThree w) false (World.doorLaid Tryz.prog 400 os) #[.slice none 0 0, .int .u32 0] 8 rfl (World.shaped_of_RefB (by kernel_rfl) (by kernel_rfl)) (by kernel_rfl) (by kernel_rfl) (by kernel_rfl) (door_three os _)) ?_
  intro W args ds p base hval hA hlt hL
  rw [Tryz.params8] at hA hval
  obtain ⟨v0, vs0, d0, ds0, p0, q0, hargs, rfl, rfl, h0, r0⟩ := trodAll_cons hA
  obtain ⟨v1, vs1, d1, ds1, p1, q1, rfl, rfl, rfl, h1, r1⟩ := trodAll_cons r0
  obtain ⟨rfl, rfl, rfl⟩ := trodAll_nil r1
  obtain rfl : args = #[v0, v1] := by cases args; simp_all
  obtain ⟨S0, O0⟩ := ws16_open (hval 0 63 v0 rfl rfl) h0 (fun x hx => hlt x (by simp [hx]))
  obtain ⟨x1, rfl, rfl, rfl, wx1⟩ := open_int Tryz.underlying25 (hval 1 25 v1 rfl rfl) h1
  exact spaceZero_walk v0 S0 x1 W O0 (bounds_u32 wx1) hL

theorem spaceZero_holds : Rows.SpaceZeroSaid :=
  OpenClaim.holds_of_wide 8 Tryz.f8 rfl rfl rfl rfl rfl rfl rfl ⟨rfl, rfl, rfl, rfl, rfl⟩ rfl rfl rfl rfl rfl (by kernel_rfl) Tryz.func8 (by kernel_rfl)
    (of_decide_eq_true (by kernel_rfl)) (by unfold Func.isWrapper; first | (rw [if_pos (by decide +kernel)]; kernel_rfl) | (rw [if_neg (by decide +kernel)]; exact ⟨rfl, rfl⟩))
    (fun os started H enc _ => spaceZero_lifted os started H enc)

/-- The card. -/
theorem spaceZero_card : Rows.SpaceZeroCardSaid :=
  Claim7.holds_tied_plain_at .later [] [.data, .data, .data] true Rows.spaceZeroCard.stood.harness false
    spaceZero_holds (fun _ h => by cases h) (by kernel_rfl) (fun _ h => by cases h) spaceZero_row_tie rfl ⟨rfl, rfl⟩ (by kernel_rfl) rfl
    (fun f fn hf hfn => by
      obtain rfl : f = 8 := Option.some.inj ((show Tryz.prog.funcNamed "priory/priorylaw16.SpaceZero" = some 8 by kernel_rfl).symm.trans hf) |>.symm
      obtain rfl : fn = Tryz.f8 := (Option.some.inj (Tryz.func8.symm.trans hfn)).symm
      exact ⟨by kernel_rfl, fun j t ht => by
        rw [Tryz.params8] at ht
        have hm : t ∈ [63, 25] := by simpa using Array.mem_of_getElem? ht
        have hall : ([63, 25].all fun u => !Tryz.prog.wantsStandIn u) = true := by kernel_rfl
        exact (show Tryz.prog.wantsStandIn t = false by simpa using List.all_eq_true.1 hall t hm)⟩)
    (by kernel_rfl)
end Go.Proofs.YtfpcoomkbmfchaaGreatDoor
