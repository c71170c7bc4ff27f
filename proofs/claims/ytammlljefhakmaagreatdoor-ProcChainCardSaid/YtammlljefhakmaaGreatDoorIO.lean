/- Helps of the proof. No condition. -/
import Derived.Test.YtammlljefhakmaaGreatDoorIN
import Derived.Test.YtammlljefhakmaaGreatDoorQ9
namespace Go.Proofs.YtammlljefhakmaaGreatDoor
open Go.RowKit Go.Maps
set_option maxRecDepth 100000
section
section
variable {W0 w:World} {J:mE} {q c:Nat} {D:Int→Option Sp} {T:List Nd} {Qu:List Int} {Lb:List Nd} {G:Int→Option Pc} {rg:Int→Nat→Int}
end
end
section
section
variable {W0 w:World} {J:mE} {q c:Nat} {D:Int→Option Sp} {T:List Nd} {Qu:List Int} {Lb:List Nd} {G:Int→Option Pc} {rg:Int→Nat→Int}
theorem dK.noD(h:dK W0 w J q c D T Qu Lb G rg){i:Int}(hG:G i=none):D i=none:=by
 obtain⟨fm,kw,Q,V,h1,_⟩:=h.Mk
 obtain⟨W,Pb,_,h2⟩:=h1.bl
 exact h2.none_ i hG
end
end
section
section
variable {W w:World} {J:mE} {q c:Nat} {Lb:List Nd} {tl:Nat} {p k ch:Int}
end
end
end Go.Proofs.YtammlljefhakmaaGreatDoor
