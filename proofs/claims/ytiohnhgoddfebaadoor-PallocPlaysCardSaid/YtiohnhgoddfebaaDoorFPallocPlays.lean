/- The law PallocPlays returns true for every input, and its arguments read behind the call as they read before. Conditions: none beyond the row's own: the library's table starts as the text lays it, which the card ties. -/
import Derived.Test.YtiohnhgoddfebaaDoorA25
import Derived.Test.YtiohnhgoddfebaaDoorOA
import Derived.Test.YtiohnhgoddfebaaDoorQL
import Derived.Test.YtiohnhgoddfebaaDoorTie
import Derived.Test.YtiohnhgoddfebaaDoorCards
import Derived.SevenTiedAt
namespace Go.Proofs.YtiohnhgoddfebaaDoor
open Go.ChangeShapes Go.WideShapes Go.ChangeAt Go.RowKit Go.Joins
set_option maxRecDepth 100000

theorem pallocPlays_lifted (os : Os) (started : os.Started) (H : Type) (enc : TypeId × Value → H) :
    ReturnsInHanded {} Tryd.checked os 3 .any (fun w args => (Rows.pallocPlaysSpec.pre enc Tryd.prog Tryd.f3 [] false w args ∧ laidMetH Tryd.prog laidTab w) ∧ sizedMet enc Tryd.prog Tryd.f3 (OpenSpec.ofChange Rows.pallocPlaysSpec) false w args)
      (Rows.pallocPlaysSpec.post enc Tryd.prog Tryd.f3 false true false false) := by
  refine card_lifted_at laidQ_of (tb := 4) started (by kernel_rfl) Tryd.func3 rfl rfl Tryd.underlying4 (by kernel_rfl)
    (fun ds h => by match ds, h with | [_, _, _], _ => rfl)
    (ChangeSpec.witness_shaped (enc := enc) (C := Tryd.checked) (os := os) (X := fun w _ => laidMetH Tryd.prog laidTab w) false (World.doorLaid Tryd.prog 400 os) #[.int .i64 0, .slice none 0 0, .slice none 0 0] 8 rfl (World.shaped_of_RefB (by kernel_rfl) (by kernel_rfl)) (by kernel_rfl) (by kernel_rfl) (by kernel_rfl) (door_tab os _)) ?_
  intro W args ds p base hval hA hlt hL
  rw [Tryd.params3] at hA hval
  obtain ⟨v0, vs0, d0, ds0, p0, q0, hargs, rfl, rfl, h0, r0⟩ := trodAll_cons hA
  obtain ⟨v1, vs1, d1, ds1, p1, q1, rfl, rfl, rfl, h1, r1⟩ := trodAll_cons r0
  obtain ⟨v2, vs2, d2, ds2, p2, q2, rfl, rfl, rfl, h2, r2⟩ := trodAll_cons r1
  obtain ⟨rfl, rfl, rfl⟩ := trodAll_nil r2
  obtain rfl : args = #[v0, v1, v2] := by cases args; simp_all
  obtain ⟨x0, rfl, rfl, rfl, wx0⟩ := open_int Tryd.underlying3 (hval 0 3 v0 rfl rfl) h0
  obtain ⟨S1, O1⟩ := ranges9_open (hval 1 22 v1 rfl rfl) h1 (fun x hx => hlt x (by simp [hx]))
  obtain ⟨S2, O2⟩ := ops9_open (hval 2 23 v2 rfl rfl) h2 (fun x hx => hlt x (by simp [hx]))
  exact pallocPlays_walk x0 v1 S1 v2 S2 W (bounds_i64 wx0) O1 O2 hL

theorem pallocPlays_holds : Rows.PallocPlaysSaid :=
  OpenClaim.holds_of_wide 3 Tryd.f3 rfl rfl rfl rfl rfl rfl rfl ⟨rfl, rfl, rfl, rfl, rfl⟩ rfl rfl rfl rfl rfl (by kernel_rfl) Tryd.func3 (by kernel_rfl)
    (of_decide_eq_true (by kernel_rfl)) (by unfold Func.isWrapper; first | (rw [if_pos (by decide +kernel)]; kernel_rfl) | (rw [if_neg (by decide +kernel)]; exact ⟨rfl, rfl⟩))
    (fun os started H enc _ => pallocPlays_lifted os started H enc)

/-- The card. -/
theorem pallocPlays_card : Rows.PallocPlaysCardSaid :=
  Claim7.holds_tied_plain_at .later [] [.data] true Rows.pallocPlaysCard.stood.harness false
    pallocPlays_holds (fun _ h => by cases h) (by kernel_rfl) (fun _ h => by cases h) pallocPlays_row_tie rfl ⟨rfl, rfl⟩ (by kernel_rfl) rfl
    (fun f fn hf hfn => by
      obtain rfl : f = 3 := Option.some.inj ((show Tryd.prog.funcNamed "priory/priorylaw09.PallocPlays" = some 3 by kernel_rfl).symm.trans hf) |>.symm
      obtain rfl : fn = Tryd.f3 := (Option.some.inj (Tryd.func3.symm.trans hfn)).symm
      exact ⟨by kernel_rfl, fun j t ht => by
        rw [Tryd.params3] at ht
        have hm : t ∈ [3, 22, 23] := by simpa using Array.mem_of_getElem? ht
        have hall : ([3, 22, 23].all fun u => !Tryd.prog.wantsStandIn u) = true := by kernel_rfl
        exact (show Tryd.prog.wantsStandIn t = false by simpa using List.all_eq_true.1 hall t hm)⟩)
    (by kernel_rfl)
end Go.Proofs.YtiohnhgoddfebaaDoor
