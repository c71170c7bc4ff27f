/- Helps of the proof. No condition. -/
import Derived.Test.YtammlljefhakmaaGreatDoorIN
import Derived.Test.YtammlljefhakmaaGreatDoorQ9
namespace Go.Proofs.YtammlljefhakmaaGreatDoor
open Go.RowKit Go.Maps
set_option maxRecDepth 100000
section
theorem aer(q sl:Int)(a:Option Addr)(n cp:Nat)(W:World)(h:fineB q sl=false∨fineB q sl=true∧(40:Int)<(n:Int))(hL:LaidN W):Calls Tryz.prog 7 #[.agg #[.int .i64 q, .int .i64 sl], .slice a n cp] W fun e w'=>e= .returned (.bool true)∧Below W.heap.size W w':=by
 have B1:=Lib.hid (Below.alloc (Below.refl W.heap.size W) (Nat.le_refl _) (pcO q sl))
 have X1:=Lib.hid (heap_alloc_new W (pcO q sl))
 have AW:=Lib.hid (fun V (hb:Below W.heap.size W V)=>hL.awake18 V hb)
 have h':∃fb,(fineB q sl=fb)∧(fb=false∨fb=true∧decide ((40:Int)<(n:Int))=true):=⟨_,rfl,h.imp id fun⟨h0,h1⟩=>⟨h0,decide_eq_true h1⟩⟩
 clear h hL
 obtain⟨fb,hf,hc⟩:=h'
 have FN:=Lib.hid (fun V=>fine18_ok q sl V hf)
 clear hf
 rcases hc with rfl|⟨rfl,d1⟩
 all_goals
  go_enter Tryz.func7,Tryz.ntmps7
  go_wp2_with fail
  refine(FN.out _).mono ?_
  rintro e w2 ⟨rfl,hb⟩
  have B2:=Lib.hid (B1.out.trans (hb.mono B1.out.size))
  have AW2:=Lib.hid (AW.out w2 B2.out)
  clear hb
  go_wp2_with fail
  refine AW2.out.mono ?_
  rintro e w3 ⟨rfl,hb⟩
  have B3:=Lib.hid (B2.out.trans (hb.mono B2.out.size))
  clear hb
  go_wp2_with fail
  go_ret
  exact⟨rfl,B3.out⟩
theorem back_far(q sl:Int)(a:Option Addr)(n cp:Nat)(W:World)(h:fineB q sl=false∨fineB q sl=true∧(40:Int)<(n:Int))(hL:LaidN W):Calls Tryz.prog 5 #[.agg #[.int .i64 q, .int .i64 sl], .slice a n cp] W fun e w'=>e= .returned (.bool true)∧Below W.heap.size W w':=by
 have B1:=Lib.hid (Below.alloc (Below.refl W.heap.size W) (Nat.le_refl _) (pcO q sl))
 have X1:=Lib.hid (heap_alloc_new W (pcO q sl))
 have AW:=Lib.hid (fun V (hb:Below W.heap.size W V)=>hL.awake18 V hb)
 have h':∃fb,(fineB q sl=fb)∧(fb=false∨fb=true∧decide ((40:Int)<(n:Int))=true):=⟨_,rfl,h.imp id fun⟨h0,h1⟩=>⟨h0,decide_eq_true h1⟩⟩
 clear h hL
 obtain⟨fb,hf,hc⟩:=h'
 have FN:=Lib.hid (fun V=>fine18_ok q sl V hf)
 clear hf
 rcases hc with rfl|⟨rfl,d1⟩
 all_goals
  go_enter Tryz.func5,Tryz.ntmps5
  go_wp2_with fail
  refine(FN.out _).mono ?_
  rintro e w2 ⟨rfl,hb⟩
  have B2:=Lib.hid (B1.out.trans (hb.mono B1.out.size))
  have AW2:=Lib.hid (AW.out w2 B2.out)
  clear hb
  go_wp2_with fail
  refine AW2.out.mono ?_
  rintro e w3 ⟨rfl,hb⟩
  have B3:=Lib.hid (B2.out.trans (hb.mono B2.out.size))
  clear hb
  go_wp2_with fail
  go_ret
  exact⟨rfl,B3.out⟩
section
variable {W0 w:World} {J:mE} {q c:Nat} {D:Int→Option Sp} {T:List Nd} {Qu:List Int} {Lb:List Nd} {G:Int→Option Pc} {rg:Int→Nat→Int}
end
end
section
section
variable {W0 w:World} {J:mE} {q c:Nat} {D:Int→Option Sp} {T:List Nd} {Qu:List Int} {Lb:List Nd} {G:Int→Option Pc} {rg:Int→Nat→Int}
theorem dK.noD(h:dK W0 w J q c D T Qu Lb G rg){i:Int}(hG:G i=none):D i=none:=by
 obtain⟨fm,kw,Q,V,h1,_⟩:=h.Mk
 obtain⟨W,Pb,_,h2⟩:=h1.bl
 exact h2.none_ i hG
end
end
section
section
variable {W w:World} {J:mE} {q c:Nat} {Lb:List Nd} {tl:Nat} {p k ch:Int}
end
end
end Go.Proofs.YtammlljefhakmaaGreatDoor
