/- Helps of the proof. No condition. -/
import Derived.Test.YtammlljefhakmaaGreatDoorGL
namespace Go.Proofs.YtammlljefhakmaaGreatDoor
open Go.RowKit
set_option maxRecDepth 100000
section
end
section
def P1:List (Nat×Nat):=[(0,1)]
end
section
end
section
def nZ(n:Nat)(R:Nat→Nat):Array Value:=((List.range n).map fun i=>Value.int .i64 (R i:Int)).toArray
theorem ql(n:Nat)(R:Nat→Nat)(i:Nat)(h:i<n):(nZ n R)[i]? =some (.int .i64 (R i:Int)):=by simp[nZ,h]
theorem qR(n:Nat)(R:Nat→Nat):(nZ n R).size=n:=by simp[nZ]
theorem Tm(n:Nat)(R:Nat→Nat)(x c:Nat)(h:x<n):(nZ n R).setIfInBounds x (.int .i64 (c:Int))=nZ n (upd R x c):=by
 apply Array.ext_getElem?
 intro i
 rw[Array.getElem?_setIfInBounds]
 by_cases hi:i<n
 ·by_cases e:x=i
  ·subst e;rw[if_pos rfl,if_pos (by rw[qR];exact h),ql n _ x hi,upd_same]
  ·rw[if_neg e,ql n R i hi,ql n _ i hi,aB _ _ _ _ (fun e2=>e e2.symm)]
 ·have e:(nZ n (upd R x c))[i]? =none:=Array.getElem?_eq_none (by rw[qR];omega)
  have e2:(nZ n R)[i]? =none:=Array.getElem?_eq_none (by rw[qR];omega)
  rw[e,if_neg (by omega),e2]
structure ZIx where
 rp:Nat
 rb:Nat
 qb:Nat
 base:Nat
 n:Nat
 v:Value
 P:List (Nat×Nat)
def ZIx.val(Z:ZIx):Array Value:=#[Z.v, .slice (some ⟨Z.rb,0,none⟩) (Z.n*32) (Z.n*32), .slice (some ⟨Z.qb,0,none⟩) Z.n Z.n]
end
section
end
section
end
section
theorem Tn(n:Nat):madeCells #[.int .i64 0] n=nZ n R0:=by
 apply Array.ext
 ·rw[size_madeCells,qR]
 ·intro i h1 h2
  have h3:i%1=0:=Nat.mod_one i
  simp[madeCells,nZ,h3]
theorem Xu:(Tryz.prog.info? 3).map (fun i=>(i.zero,i.size,i.bytes))=some (some (.int .i64 0),1,8):=by kernel_rfl
theorem Od(n:Nat)(hn:n≤1000000)(w:World):(Instr.makeSlice 54 (.int .i64 (n:Int)) (.int .i64 (n:Int))).run Tryz.prog w= .ok (.slice (some ⟨w.heap.size,0,none⟩) n n) (w.alloc (.cells (nZ n R0) 3)):=by
 obtain⟨i,hi,h1,h2,h3⟩:=info_parts Xu
 have:=run_make (P:=Tryz.prog) w 54 3 i _ Tryz.underlying54 hi h1 .i64 .i64 n n (by omega) (by omega) (by rw[h3];omega) (by omega)
 rw[h2]at this
 simpa[Value.cells,Tn]using this
def z3:Array Value:=#[.slice none 0 0, .slice none 0 0, .slice none 0 0]
end
end Go.Proofs.YtammlljefhakmaaGreatDoor
