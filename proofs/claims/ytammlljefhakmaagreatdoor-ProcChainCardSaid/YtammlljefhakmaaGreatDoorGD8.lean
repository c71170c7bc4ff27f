/- Helps of the proof. No condition. -/
import Derived.Test.YtammlljefhakmaaGreatDoorGC
import Derived.BigGuardPart
import Derived.LoopTactic
import Derived.Outline
import Derived.IntWalk
import Derived.OwnWalk
import Derived.Deep.RegionHeld3
namespace Go.Proofs.YtammlljefhakmaaGreatDoor
open Go.RowKit
set_option maxRecDepth 100000
section
theorem VQ(L:List Int)(i j:Nat)(v:Int)(hi:i<L.length):(L.set i v).getD j 0=if i=j then v else L.getD j 0:=by
 simp only[List.getD_eq_getElem?_getD,List.getElem?_set]
 by_cases h:i=j
 ·subst h;simp[hi]
 ·simp[h]
theorem Nr(L:List Int)(f q:Nat)(hq:q<32):(rowOf L f).getD q 0=L.getD (f*32+q) 0:=by
 simp only[rowOf,List.getD_eq_getElem?_getD,List.getElem?_take,List.getElem?_drop,if_pos hq]
def idx(f q:Int):Nat:=f.toNat*32+q.toNat
theorem Ik(mp fb n:Nat)(L:List Int)(f q:Int)(w:World)(hm:bT w mp fb n L)(h:j5 n f q):
  Calls Tryz.prog 76 #[.pointer (some ⟨mp,0,none⟩), .int .i64 f, .int .i64 q] w fun e w'=>e= .returned (.tuple #[.int .u32 (L.getD (idx f q) 0), .int .i64 0])∧Below w.heap.size w w':=by
 unfold j5 at h
 obtain⟨f',rfl⟩:=Int.eq_ofNat_of_zero_le h.1
 obtain⟨q',rfl⟩:=Int.eq_ofNat_of_zero_le h.2.2.1
 exact Y0 mp fb n f' q' L w hm (by omega) (by omega)
theorem ZJ(mp fb n:Nat)(L:List Int)(f q v:Int)(w:World)(hm:bT w mp fb n L)(h:j5 n f q):
  Calls Tryz.prog 87 #[.pointer (some ⟨mp,0,none⟩), .int .i64 f, .int .i64 q, .int .u32 v] w fun e w'=>e= .returned (.int .i64 0)∧Puts w w' mp fb n (L.set (idx f q) v):=by
 unfold j5 at h
 obtain⟨f',rfl⟩:=Int.eq_ofNat_of_zero_le h.1
 obtain⟨q',rfl⟩:=Int.eq_ofNat_of_zero_le h.2.2.1
 exact AY mp fb n f' q' L v w hm (by omega) (by omega)
theorem acK(mp fb n:Nat)(L:List Int)(f:Int)(w:World)(hm:bT w mp fb n L)(h:j5 n f 0):
  Calls Tryz.prog 165 #[.pointer (some ⟨mp,0,none⟩), .int .i64 f] w fun e w'=>∃v,e= .returned (.tuple #[v, .int .i64 0])∧UU w.heap.size w' v (rowOf L f.toNat)∧Below w.heap.size w w':=by
 unfold j5 at h
 obtain⟨f',rfl⟩:=Int.eq_ofNat_of_zero_le h.1
 exact Y9 mp fb n f' L w hm (by omega)
structure xV(W w:World)(mp fb n:Nat)(L:List Int):Prop where
 st:bT w mp fb n L
 below:Below W.heap.size W w
 lm:W.heap.size≤mp
 lf:W.heap.size≤fb
theorem xV.step{W w w':World}{mp fb n:Nat}{L:List Int}(h:xV W w mp fb n L)(k:Below w.heap.size w w'):xV W w' mp fb n L:=⟨h.st.below k,h.below.trans (k.mono h.below.size),h.lm,h.lf⟩
end
section
end
section
end
section
def abt(w:World)(v:Value)(L:List Int):Prop:=∃a c,v= .slice a L.length c∧(L=[]∨∃b o,a=some ⟨b,o,none⟩∧b<w.heap.size∧∀i,i<L.length→w.cell? ⟨b,o+i,none⟩=some (.int .u32 (L.getD i 0)))
end
section
theorem J7{A B:List Int}(hl:A.length=B.length)(h:∀j,j<A.length→A.getD j 0=B.getD j 0):A=B:=by
 apply List.ext_getElem hl
 intro i h1 h2
 have:=h i h1
 simpa[List.getD_eq_getElem?_getD,h1,h2]using this
end
section
theorem J8:(Tryz.prog.info? 25).map (fun i=>(i.zero,i.size,i.bytes))=some (some (.int .u32 0),1,4):=by kernel_rfl
end
section
end
section
theorem Ns(n:Nat):madeCells #[.int .u32 0] n=ah (List.replicate n 0):=by
 apply Array.ext
 ·rw[size_madeCells,dw,List.length_replicate]
 ·intro i h1 h2
  have h3:i%1=0:=Nat.mod_one i
  simp[madeCells,ah,h3]
theorem Nt(n:Nat)(hn:n≤1000000)(w:World):(Instr.makeSlice 87 (.int .i64 (n:Int)) (.int .i64 (n:Int))).run Tryz.prog w= .ok (.slice (some ⟨w.heap.size,0,none⟩) n n) (w.alloc (.cells (ah (List.replicate n 0)) 25)):=by
 obtain⟨i,hi,h1,h2,h3⟩:=info_parts J8
 have:=run_make (P:=Tryz.prog) w 87 25 i _ Tryz.underlying87 hi h1 .i64 .i64 n n (by omega) (by omega) (by rw[h3];omega) (by omega)
 rw[h2]at this
 simpa[Value.cells,Ns]using this
end
end Go.Proofs.YtammlljefhakmaaGreatDoor
