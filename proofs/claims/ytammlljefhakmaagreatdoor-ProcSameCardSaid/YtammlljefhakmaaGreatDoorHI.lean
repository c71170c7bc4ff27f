/- Helps of the proof. No condition. -/
import Derived.Test.YtammlljefhakmaaGreatDoorGL
namespace Go.Proofs.YtammlljefhakmaaGreatDoor
open Go.RowKit
set_option maxRecDepth 100000
section
end
section
def P1:List (Nat×Nat):=[(0,1)]
end
section
end
section
def nP(n:Nat)(R:Nat→Nat):Array Value:=((List.range n).map fun i=>Value.int .i64 (R i:Int)).toArray
theorem pW(n:Nat)(R:Nat→Nat)(i:Nat)(h:i<n):(nP n R)[i]? =some (.int .i64 (R i:Int)):=by simp[nP,h]
theorem qI(n:Nat)(R:Nat→Nat):(nP n R).size=n:=by simp[nP]
theorem QL(n:Nat)(R:Nat→Nat)(x c:Nat)(h:x<n):(nP n R).setIfInBounds x (.int .i64 (c:Int))=nP n (upd R x c):=by
 apply Array.ext_getElem?
 intro i
 rw[Array.getElem?_setIfInBounds]
 by_cases hi:i<n
 ·by_cases e:x=i
  ·subst e;rw[if_pos rfl,if_pos (by rw[qI];exact h),pW n _ x hi,upd_same]
  ·rw[if_neg e,pW n R i hi,pW n _ i hi,aF _ _ _ _ (fun e2=>e e2.symm)]
 ·have e:(nP n (upd R x c))[i]? =none:=Array.getElem?_eq_none (by rw[qI];omega)
  have e2:(nP n R)[i]? =none:=Array.getElem?_eq_none (by rw[qI];omega)
  rw[e,if_neg (by omega),e2]
structure ZIx where
 rp:Nat
 rb:Nat
 qb:Nat
 base:Nat
 n:Nat
 v:Value
 P:List (Nat×Nat)
def ZIx.val(Z:ZIx):Array Value:=#[Z.v, .slice (some ⟨Z.rb,0,none⟩) (Z.n*32) (Z.n*32), .slice (some ⟨Z.qb,0,none⟩) Z.n Z.n]
end
section
end
section
end
section
theorem QM(n:Nat):madeCells #[.int .i64 0] n=nP n R0:=by
 apply Array.ext
 ·rw[size_madeCells,qI]
 ·intro i h1 h2
  have h3:i%1=0:=Nat.mod_one i
  simp[madeCells,nP,h3]
theorem Vi:(Tryz.prog.info? 3).map (fun i=>(i.zero,i.size,i.bytes))=some (some (.int .i64 0),1,8):=by kernel_rfl
theorem MB(n:Nat)(hn:n≤1000000)(w:World):(Instr.makeSlice 54 (.int .i64 (n:Int)) (.int .i64 (n:Int))).run Tryz.prog w= .ok (.slice (some ⟨w.heap.size,0,none⟩) n n) (w.alloc (.cells (nP n R0) 3)):=by
 obtain⟨i,hi,h1,h2,h3⟩:=info_parts Vi
 have:=run_make (P:=Tryz.prog) w 54 3 i _ Tryz.underlying54 hi h1 .i64 .i64 n n (by omega) (by omega) (by rw[h3];omega) (by omega)
 rw[h2]at this
 simpa[Value.cells,QM]using this
def z3:Array Value:=#[.slice none 0 0, .slice none 0 0, .slice none 0 0]
end
end Go.Proofs.YtammlljefhakmaaGreatDoor
