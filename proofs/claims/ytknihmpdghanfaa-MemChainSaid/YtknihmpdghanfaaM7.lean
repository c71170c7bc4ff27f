/- The contract of awake, layer 2's laws: it returns true. No condition. -/
import Derived.Test.YtknihmpdghanfaaM6
namespace Go.Proofs.Ytknihmpdghanfaa
open Go.RowKit

/-- Old memory below B stays, behind what a call did to a memory of the law's own. -/
theorem Puts.kept {B : Nat} {a w w' : World} {mp fb n : Nat} {L : List Int} (k : Puts w w' mp fb n L) (h : Below B a w) (hw : B ≤ w.heap.size) (hf : B ≤ fb) : Below B a w' := h.trans (below_of_grownBy k.grown hw hf)

set_option maxRecDepth 100000 in
set_option maxHeartbeats 2000000 in
theorem awake_any (w : World) : Calls Try.prog 9 #[] w fun e w' => e = .returned (.bool true) ∧ Below w.heap.size w w' := by
  go_enter Try.func9, Try.ntmps9
  go_wp2_with fail
  refine (new_ok 2 w (by decide) (by decide)).mono ?_
  rintro e w1 ⟨mp, fb, rfl, hm, hmp, hfb, hb⟩
  have M1 := Lib.hid hm
  have B1 := Lib.hid hb
  have HF := Lib.hid hfb
  clear hm hmp hfb hb
  go_wp2_with fail
  refine (write_ok mp fb 2 1 31 _ 7 w1 M1.out (by decide) (by decide)).mono ?_
  rintro e w2 ⟨rfl, hp⟩
  have B2 := Lib.hid (hp.kept B1.out B1.out.size HF.out)
  have M2 := Lib.hid hp.st
  clear hp
  go_wp2_with fail
  refine (copy_ok mp fb 2 1 0 _ w2 M2.out (by decide) (by decide)).mono ?_
  rintro e w3 ⟨rfl, hp⟩
  have B3 := Lib.hid (hp.kept B2.out B2.out.size HF.out)
  have M3 := Lib.hid hp.st
  clear hp
  go_wp2_with fail
  have C := read_ok mp fb 2 0 31 _ w3 M3.out (by decide) (by decide)
  rw [show ((putRow ((List.replicate (2 * 32) (0 : Int)).set (1 * 32 + 31) 7) 0 (rowOf ((List.replicate (2 * 32) (0 : Int)).set (1 * 32 + 31) 7) 1)).getD (0 * 32 + 31) 0) = 7 from by decide] at C
  refine C.mono ?_
  clear C
  rintro e w4 ⟨rfl, hb⟩
  have B4 := Lib.hid (B3.out.trans (hb.mono B3.out.size))
  have M4 := Lib.hid (M3.out.below hb)
  clear hb
  go_wp2_with fail
  refine (write_bad mp fb 2 _ (-1) 0 1 w4 M4.out (by unfold okFQ; omega)).mono ?_
  rintro e w5 ⟨rfl, hb⟩
  have B5 := Lib.hid (B4.out.trans (hb.mono B4.out.size))
  clear hb
  go_wp2
  go_ret
  exact ⟨rfl, B5.out⟩
end Go.Proofs.Ytknihmpdghanfaa
