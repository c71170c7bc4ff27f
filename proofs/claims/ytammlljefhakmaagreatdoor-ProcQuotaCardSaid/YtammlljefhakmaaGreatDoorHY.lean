/- Helps of the proof. No condition. -/
import Derived.Deep.Slices
import Derived.Lib.SmallJoins
import Derived.Test.YtammlljefhakmaaGreatDoorHW
import Derived.Test.YtammlljefhakmaaGreatDoorS42
namespace Go.Proofs.YtammlljefhakmaaGreatDoor
open Go.ChangeShapes Go.WideShapes Go.ChangeAt Go.RowKit Go.Deep Go.Joins
set_option maxRecDepth 100000
theorem zP:Tryz.prog.cellsOf 25=1:=by kernel_rfl
def Yb(w:World)(v:Value)(L:List Int):Prop:=∃a c,v= .slice a L.length c∧(∀x∈L,0≤x∧x≤4294967295)∧(L=[]∨∃b o,a=some ⟨b,o,none⟩∧b<w.heap.size∧∀i,i<L.length→w.cell? ⟨b,o+i,none⟩=some (.int .u32 (L.getD i 0)))
section
variable {H:Type} {enc:TypeId×Value→H} {W:World} {base:Nat}
theorem TM{v:Value}{d:DataW H}{p:List MemPlace}(hv:Value.okWide Tryz.prog W .any base 87 v)
  (h:DataW.Trod enc Tryz.prog W 0 (fun _=>true) true 87 v d p)(hlt:∀x∈p,x.block<W.heap.size):∃L:List Int,Yb W v L:=by
 obtain⟨a0,len,cap,rfl⟩:=okWide_slice Tryz.underlying87 hv
 obtain⟨fuel,hf⟩:=h
 rcases open_slice Tryz.underlying87 hf with⟨hcs,_⟩|⟨a,len',cap',m,n,D,Pl,hcs,_,hl,_,hmm,hx,hi⟩
 ·simp[Value.cells]at hcs
  obtain⟨rfl,rfl,rfl⟩:=hcs
  exact⟨[],none,0,rfl,by simp,Or.inl rfl⟩
 ·simp[Value.cells]at hcs
  obtain⟨rfl,rfl,rfl⟩:=hcs
  have hm:m=cap:=by simpa using hmm
  have each:∀i,i<len→∃q:Int,W.cell? (a.add i)=some (.int .u32 q)∧(0≤q∧q≤4294967295):=by
   intro i hil
   obtain⟨cs',h1,h2⟩:=hi i (by omega)
   rw[zP,Nat.mul_one]at h1
   obtain⟨_,hlen,hcell⟩:=World.cells?_some h1
   match cs',hlen with
   |[v0],_=>
    have e0:=hcell 0 (by omega)
    rw[add_add]at e0
    obtain⟨n0,f0,_,w0⟩:=DataW.trod_int Tryz.underlying25 h2
    simp at f0
    subst f0
    exact⟨n0,by simpa using e0,bounds_u32 w0⟩
  obtain⟨q,hq⟩:=choose_lt each
  have hS:((List.range len).map q).length=len:=by simp
  refine⟨(List.range len).map q,some a,cap,by rw[hS],?_,?_⟩
  ·intro x hx
   obtain⟨i,hi,rfl⟩:=List.mem_map.1 hx
   exact(hq i (List.mem_range.1 hi)).2
  by_cases h0:len=0
  ·subst h0;exact Or.inl rfl
  ·obtain⟨b,off,spot⟩:=a
   have hspot:spot=none:=by simpa[Addr.add]using World.cell?_spot ((hq 0 (by omega)).1)
   subst hspot
   simp only[Prod.mk.injEq]at hx
   refine Or.inr ⟨b,off,rfl,hlt (.cell b off) (by rw[hx.2];exact List.mem_append_left _ (MemPlace.mem_row.2 ⟨0,by rw[zP];omega,by simp⟩)),fun i hil=>?_⟩
   rw[hS]at hil
   have e:((List.range len).map q).getD i 0=q i:=by simp[List.getD_eq_getElem?_getD,hil]
   rw[e]
   have:=(hq i hil).1
   simp only[add_plain]at this
   exact this
end
end Go.Proofs.YtammlljefhakmaaGreatDoor
namespace Go.Proofs.YtammlljefhakmaaGreatDoor
open Go.RowKit Go.Maps
set_option maxRecDepth 100000
section
variable {k i t n x y va u:Int} {d:Bool}
end
end Go.Proofs.YtammlljefhakmaaGreatDoor
namespace Go.Proofs.YtammlljefhakmaaGreatDoor
open Go.ChangeShapes Go.WideShapes Go.ChangeAt Go.RowKit Go.Deep Go.Joins
set_option maxRecDepth 100000
structure adz(k i t n x y va u:Int):Prop where
 wk:I64 k
 wi:I64 i
 wt:I64 t
 wn:I64 n
 wx:I64 x
 wy:I64 y
 wv:0≤va∧va≤4294967295
 wu:0≤u∧u≤4294967295
section
variable {H:Type} {enc:TypeId×Value→H} {W:World} {base:Nat} {sp:Nat→Bool} {held:Bool}
end
section
variable {H:Type} {enc:TypeId×Value→H} {W:World} {base:Nat}
end
end Go.Proofs.YtammlljefhakmaaGreatDoor
namespace Go.Proofs.YtammlljefhakmaaGreatDoor
open Go.ChangeShapes Go.WideShapes Go.ChangeAt Go.RowKit Go.Deep Go.Joins
set_option maxRecDepth 100000
structure adA where
 k:Int
 i:Int
 t:Int
 n:Int
 x:Int
 y:Int
 d:Bool
 va:Int
 u:Int
instance:Inhabited adA:=⟨⟨0,0,0,0,0,0,false,0,0⟩⟩
def adA.XW(o:adA):Prop:=adz o.k o.i o.t o.n o.x o.y o.va o.u
section
variable {H:Type} {enc:TypeId×Value→H} {W:World} {base:Nat}
end
end Go.Proofs.YtammlljefhakmaaGreatDoor
