/- Helps of the proof. No condition. -/
import Derived.Test.YtammlljefhakmaaGreatDoorGB0
import Derived.Test.YtammlljefhakmaaGreatDoorGQL
namespace Go.Proofs.YtammlljefhakmaaGreatDoor
open Go.ChangeShapes Go.WideShapes Go.ChangeAt Go.RowKit
set_option maxRecDepth 100000
structure LaidN(w:World):Prop where
 lw:aM w
 lq:jm w
abbrev jV:List (String×DataW Unit):=[("math/bits.deBruijn32tab",Rows.laid_math_bits_deBruijn32tab),("math/bits.deBruijn64tab",Rows.laid_math_bits_deBruijn64tab),("priory/word.masks",Rows.laid_priory_word_masks)]
theorem vM(os:Os)(args:Array Value):laidMetH Tryz.prog jV ((World.doorLaid Tryz.prog 400 os).forCall (fun _ _=>0) ⟨#[],args,[]⟩).memory:=
 laidMetH_of_parts3 (fuel:=8) (laidMet_of_run' 8 (by kernel_rfl) (by kernel_rfl)) (by kernel_rfl) (by kernel_rfl)
theorem Ci{W:World}(h:laidMetH Tryz.prog jV W):LaidN W:=by
 rw[MakeChecks.laidMetH_plain _ _ _ (by kernel_rfl)]at h
 have hB:Lib.TabIs Tryz.prog W "math/bits.deBruijn32tab" .u8 [0,1,28,2,29,14,24,3,30,22,20,15,25,17,4,8,31,27,13,23,21,19,16,7,26,12,18,6,11,5,10,9]:=
  Lib.tabIs_of_head PZ aah Tryz.underlying320 Tryz.underlying5 afe aai h
 have hQ:Lib.TabIs Tryz.prog W "math/bits.deBruijn64tab" .u8 (Lib.deBruijn64tab.map fun(n:Nat)=>(n:Int)):=
  Lib.tabIs_of_head WZ adh Tryz.underlying321 Tryz.underlying5 cU8 adi (laidMet.tail h)
 have hM:Lib.TabIs Tryz.prog W "priory/word.masks" .u32 [1,2,4,261888,31,992,31744,32736]:=
  Lib.tabIs_of_head WY adf Tryz.underlying46 Tryz.underlying25 afd adg (laidMet.tail (laidMet.tail h))
 have b:=fun i hi=>hB.cell PZ i hi
 have m:=fun i hi=>hM.cell WY i hi
 refine⟨⟨m 0 (by decide),m 1 (by decide),m 2 (by decide),m 3 (by decide),m 4 (by decide),m 5 (by decide),m 6 (by decide),m 7 (by decide),b 0 (by decide),b 1 (by decide),b 3 (by decide),b 15 (by decide),b 29 (by decide),b 30 (by decide)⟩,?_⟩
 intro j hj
 have:=hQ.cell WZ j hj
 rw[this]
 have h1:j<Lib.deBruijn64tab.length:=hj
 simp[List.getD_eq_getElem?_getD,h1]
end Go.Proofs.YtammlljefhakmaaGreatDoor
