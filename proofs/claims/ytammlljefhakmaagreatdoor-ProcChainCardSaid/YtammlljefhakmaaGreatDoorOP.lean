/- Arguments of layer 18's laws, opened: a configuration, eight words, a call, a slice of calls. No condition. -/
import Derived.Test.YtammlljefhakmaaGreatDoorIN
import Derived.Deep.Slices
import Derived.Lib.SmallJoins
import Derived.OpenShut
namespace Go.Proofs.YtammlljefhakmaaGreatDoor
open Go.ChangeShapes Go.WideShapes Go.ChangeAt Go.RowKit Go.Deep Go.Joins
set_option maxRecDepth 100000
theorem zi:Tryz.prog.cellsOf 27=8:=by kernel_rfl
theorem Uw:Tryz.prog.cellsOf 29=2:=by kernel_rfl
theorem Ux:Tryz.prog.cellsOf 23=3:=by kernel_rfl
theorem YG:Tryz.prog.cellsOf 25=1:=by kernel_rfl
theorem uh:Tryz.prog.cellsOf 3=1:=by kernel_rfl
theorem YH:Tryz.prog.cellsOf 4=1:=by kernel_rfl
section
variable {H:Type} {enc:TypeId×Value→H} {W:World} {base:Nat} {sp:Nat→Bool} {held:Bool}
theorem DK{fuel:Nat}{cs:List Value}{x:DataW H×List MemPlace}(h:DataW.trod enc Tryz.prog W base sp held fuel 27 cs=some x):∃q:Op18,cs=[.int .i64 q.d, .int .i64 q.p, .int .i64 q.n, .int .i64 q.x, .int .i64 q.y, .bool q.b, .int .u32 q.va, .int .u32 q.a]∧q.Uv:=by
 obtain⟨xs,k,_,_,hlen,hxl,hg⟩:=DataW.trod_struct Tryz.underlying27 h
 rw[zi]at hlen
 match xs,hxl,cs,hlen with
 | [y0,y1,y2,y3,y4,y5],_,[v0,v1,v2,v3,v4,v5,v6,v7],_=>
  have g0:=hg 0 _ rfl
  have g1:=hg 1 _ rfl
  have g2:=hg 2 _ rfl
  have g3:=hg 3 _ rfl
  have g4:=hg 4 _ rfl
  have g5:=hg 5 _ rfl
  simp[Ux,YG,uh]at g0 g1 g2 g3 g4 g5
  obtain⟨n0,f0,_,w0⟩:=DataW.trod_int Tryz.underlying3 g0
  obtain⟨n1,f1,_,w1⟩:=DataW.trod_int Tryz.underlying3 g1
  obtain⟨n2,f2,_,w2⟩:=DataW.trod_int Tryz.underlying3 g2
  obtain⟨zs,m,_,_,_,hzl,hi⟩:=DataW.trod_struct Tryz.underlying23 g3
  match zs,hzl with
  |[z0,z1,z2],_=>
   have i0:=hi 0 _ rfl
   have i1:=hi 1 _ rfl
   have i2:=hi 2 _ rfl
   simp[uh,YH]at i0 i1 i2
   obtain⟨n3,f3,_,w3⟩:=DataW.trod_int Tryz.underlying3 i0
   obtain⟨n4,f4,_,w4⟩:=DataW.trod_int Tryz.underlying3 i1
   obtain⟨b5,f5,_⟩:=DataW.trod_bool Tryz.underlying4 i2
   obtain⟨n6,f6,_,w6⟩:=DataW.trod_int Tryz.underlying25 g4
   obtain⟨n7,f7,_,w7⟩:=DataW.trod_int Tryz.underlying25 g5
   simp at f0 f1 f2 f3 f4 f5 f6 f7
   subst f0 f1 f2 f3 f4 f5 f6 f7
   have u6:=bounds_u32 w6
   have u7:=bounds_u32 w7
   exact⟨⟨n0,n1,n2,n3,n4,b5,n6,n7⟩,rfl,⟨bounds_i64 w0,bounds_i64 w1,bounds_i64 w2,bounds_i64 w3,bounds_i64 w4,show 0≤n6∧n6<4294967296 by omega,show 0≤n7∧n7<4294967296 by omega⟩⟩
end
section
variable {H:Type} {enc:TypeId×Value→H} {W:World} {base:Nat}
theorem Uy{v:Value}{d:DataW H}{p:List MemPlace}(hv:Value.okWide Tryz.prog W .any base 27 v)
  (h:DataW.Trod enc Tryz.prog W 0 (fun _=>true) true 27 v d p):∃q:Op18,v= .agg q.v∧q.Uv:=by
 obtain⟨cs,rfl,hsz⟩:=okWide_struct Tryz.underlying27 hv
 obtain⟨fuel,hf⟩:=h
 obtain⟨q,he,hw⟩:=DK hf
 refine⟨q,?_,hw⟩
 have:cs=q.v:=by
  apply Array.ext'
  simpa[Value.cells]using he
 rw[this]
theorem zk{v:Value}{d:DataW H}{p:List MemPlace}(hv:Value.okWide Tryz.prog W .any base 29 v)
  (h:DataW.Trod enc Tryz.prog W 0 (fun _=>true) true 29 v d p):∃x y:Int,v= .agg #[.int .i64 x, .int .i64 y]∧I64 x∧I64 y:=by
 obtain⟨cs,rfl,hsz⟩:=okWide_struct Tryz.underlying29 hv
 obtain⟨fuel,hf⟩:=h
 obtain⟨xs,k,_,_,hlen,hxl,hg⟩:=DataW.trod_struct Tryz.underlying29 hf
 rw[Uw]at hlen
 have e:∃(x y:Int),(Value.agg cs).cells.toList=[.int .i64 x, .int .i64 y]∧I64 x∧I64 y:=by
  revert hg hlen
  generalize(Value.agg cs).cells.toList=zs
  intro hlen hg
  match xs,hxl,zs,hlen with
  |[y0,y1],_,[v0,v1],_=>
   have g0:=hg 0 _ rfl
   have g1:=hg 1 _ rfl
   simp[uh]at g0 g1
   obtain⟨n0,f0,_,w0⟩:=DataW.trod_int Tryz.underlying3 g0
   obtain⟨n1,f1,_,w1⟩:=DataW.trod_int Tryz.underlying3 g1
   simp at f0 f1
   subst f0 f1
   exact⟨n0,n1,rfl,bounds_i64 w0,bounds_i64 w1⟩
 obtain⟨x,y,e,hw⟩:=e
 refine⟨x,y,?_,hw⟩
 have:cs=#[.int .i64 x, .int .i64 y]:=by
  apply Array.ext'
  simpa[Value.cells]using e
 rw[this]
theorem OG{v:Value}{d:DataW H}{p:List MemPlace}(hv:Value.okWide Tryz.prog W .any base 70 v)
  (h:DataW.Trod enc Tryz.prog W 0 (fun _=>true) true 70 v d p)(hlt:∀x∈p,x.block<W.heap.size):∃S:List Op18,ArgOps18 W v S:=by
 obtain⟨a0,len,cap,rfl⟩:=okWide_slice Tryz.underlying70 hv
 obtain⟨fuel,hf⟩:=h
 rcases open_slice Tryz.underlying70 hf with⟨hcs,_⟩|⟨a,len',cap',m,n,D,Pl,hcs,_,hl,_,hmm,hx,hi⟩
 ·simp[Value.cells]at hcs
  obtain⟨rfl,rfl,rfl⟩:=hcs
  exact⟨[],none,0,rfl,by simp,Or.inl rfl⟩
 ·simp[Value.cells]at hcs
  obtain⟨rfl,rfl,rfl⟩:=hcs
  have hm:m=cap:=by simpa using hmm
  have each:∀i,i<len→∃q:Op18,q.Uv∧W.cell? (a.add (i*8))=some (.int .i64 q.d)∧W.cell? (a.add (i*8+1))=some (.int .i64 q.p)∧W.cell? (a.add (i*8+2))=some (.int .i64 q.n)∧W.cell? (a.add (i*8+3))=some (.int .i64 q.x)∧W.cell? (a.add (i*8+4))=some (.int .i64 q.y)∧W.cell? (a.add (i*8+5))=some (.bool q.b)∧W.cell? (a.add (i*8+6))=some (.int .u32 q.va)∧W.cell? (a.add (i*8+7))=some (.int .u32 q.a):=by
   intro i hil
   obtain⟨cs',h1,h2⟩:=hi i (by omega)
   rw[zi]at h1
   obtain⟨_,hlen,hcell⟩:=World.cells?_some h1
   obtain⟨qq,rfl,hw⟩:=DK h2
   have e0:=hcell 0 (by omega)
   have e1:=hcell 1 (by omega)
   have e2:=hcell 2 (by omega)
   have e3:=hcell 3 (by omega)
   have e4:=hcell 4 (by omega)
   have e5:=hcell 5 (by omega)
   have e6:=hcell 6 (by omega)
   have e7:=hcell 7 (by omega)
   rw[add_add]at e0 e1 e2 e3 e4 e5 e6 e7
   exact⟨qq,hw,by simpa using e0,by simpa using e1,by simpa using e2,by simpa using e3,by simpa using e4,by simpa using e5,by simpa using e6,by simpa using e7⟩
  obtain⟨q,hq⟩:=choose_lt each
  have hS:((List.range len).map q).length=len:=by simp
  refine⟨(List.range len).map q,some a,cap,by rw[hS],fun x hx=>?_,?_⟩
  ·simp only[List.mem_map,List.mem_range]at hx
   obtain⟨i,hi',rfl⟩:=hx
   exact(hq i hi').1
  by_cases h0:len=0
  ·subst h0;exact Or.inl rfl
  ·obtain⟨b,off,spot⟩:=a
   have hspot:spot=none:=by simpa[Addr.add]using World.cell?_spot (hq 0 (by omega)).2.1
   subst hspot
   simp only[Prod.mk.injEq]at hx
   refine Or.inr ⟨b,off,rfl,hlt (.cell b off) (by rw[hx.2];exact List.mem_append_left _ (MemPlace.mem_row.2 ⟨0,by rw[zi];omega,by simp⟩)),fun i hil=>?_⟩
   rw[hS]at hil
   have e:((List.range len).map q).getD i default=q i:=by simp[List.getD_eq_getElem?_getD,hil]
   rw[e]
   obtain⟨_,k0,k1,k2,k3,k4,k5,k6,k7⟩:=hq i hil
   simp only[add_plain]at k0 k1 k2 k3 k4 k5 k6 k7
   exact⟨k0,by simpa[Nat.add_assoc]using k1,by simpa[Nat.add_assoc]using k2,by simpa[Nat.add_assoc]using k3,by simpa[Nat.add_assoc]using k4,by simpa[Nat.add_assoc]using k5,by simpa[Nat.add_assoc]using k6,by simpa[Nat.add_assoc]using k7⟩
end
end Go.Proofs.YtammlljefhakmaaGreatDoor
