/- Helps of the proof. No condition. -/
import Derived.Test.YtammlljefhakmaaGreatDoorGA0
import Derived.Laws.OwnMore
import Derived.Deep.RegionHeld3
import Derived.Deep.AppendLies
import Derived.Deep.RegionLaw
import Derived.Great.BuildSlice
namespace Go.Proofs.YtammlljefhakmaaGreatDoor
open Go.RowKit
set_option maxRecDepth 100000
abbrev Nd:=Int×Int×Int×Int
def bH(id:Int):List Nd→Int
 |[]=>0
 |n::r=>(if n.2.1=id then n.2.2.1 else 0)+bH id r
def aD(id:Int):List Nd→Option Nd
 |[]=>none
 |n::r=>if n.1=id then some n else aD id r
def eZ(L:List Nd)(n:Nd):Int:=n.2.2.1-n.2.2.2-bH n.1 L
def OI(L:List Nd):Option Nd→Int
 |none=>0
 |some n=>eZ L n
def aS(L:List Nd)(id:Int):Int:=OI L (aD id L)
def iw(id n:Int):Bool:=decide (1≤id∧id≤8)&&decide (0≤n∧n≤65536)
theorem Hr(id:Int)(A B:List Nd):bH id (A++B)=bH id A+bH id B:=by
 induction A with
 |nil=>simp[bH]
 |cons n r ih=>simp only[List.cons_append,bH,ih];omega
theorem aj{id:Int}{n:Nd}:∀{L:List Nd},aD id L=some n→n∈L∧n.1=id
 | x::r,h=>by
  unfold aD at h
  split at h
  ·rename_i e
   cases h
   exact⟨by simp,e⟩
  ·have:=aj h
   exact⟨List.mem_cons_of_mem _ this.1,this.2⟩
theorem dZ{id:Int}:∀{L:List Nd},aD id L=none↔∀n∈L,n.1≠id
 |[]=>by simp[aD]
 | x::r=>by
  unfold aD
  split
  ·rename_i e
   simp[e]
  ·rename_i e
   rw[dZ]
   simp[e]
abbrev MR(n:Nd):Prop:=(1≤n.1∧n.1≤8)∧(0≤n.2.1∧n.2.1≤8)∧(0≤n.2.2.1∧n.2.2.1≤65536)∧0≤n.2.2.2∧n.2.2.2≤65536
structure bR(L:List Nd):Prop where
 up:L.Pairwise (fun a b=>a.1<b.1)
 ok:∀n∈L,MR n
theorem dI:∀{L:List Nd},L.Pairwise (fun a b=>a.1<b.1)→∀{n:Nd},n∈L→aD n.1 L=some n
 | x::r,hp,n,h=>by
  obtain⟨h1,h2⟩:=List.pairwise_cons.1 hp
  unfold aD
  rcases List.mem_cons.1 h with rfl|h
  ·rw[if_pos rfl]
  ·have:=h1 n h
   rw[if_neg (by omega)]
   exact dI h2 h
theorem xM{L:List Nd}{i:Nat}(h:i<L.length):L.getD i default∈L:=by
 rw[List.getD_eq_getElem?_getD,List.getElem?_eq_getElem h];exact List.getElem_mem _
theorem Ze{id:Int}{L:List Nd}(h:∀i,i<L.length→(L.getD i default).1≠id):aD id L=none:=by
 rw[dZ]
 intro n hn
 obtain⟨i,hi,rfl⟩:=List.getElem_of_mem hn
 have:=h i hi
 rwa [List.getD_eq_getElem?_getD,List.getElem?_eq_getElem hi,Option.getD_some]at this
theorem Rh{L:List Nd}{i:Nat}(h:i<L.length):L.take (i+1)=L.take i++[L.getD i default]:=by
 rw[List.take_succ_eq_append_getElem h,List.getD_eq_getElem?_getD,List.getElem?_eq_getElem h,Option.getD_some]
theorem qB(id:Int):∀{L:List Nd},(∀n∈L,MR n)→0≤bH id L∧bH id L≤65536*L.length
 |[],_=>by simp[bH]
 |n::r,h=>by
  have h1:=qB id (L:=r) (fun x hx=>h x (List.mem_cons_of_mem _ hx))
  have h2:=h n (by simp)
  unfold bH
  simp only[List.length_cons]
  split<;>omega
theorem Jp:∀{L:List Nd} {a:Int},L.Pairwise (fun a b=>a.1<b.1)→(∀n∈L,a≤n.1∧n.1≤8)→a≤9→(L.length:Int)≤9-a
 |[],a,_,_,h=>by simp;omega
 |n::r,a,hp,h,_=>by
  obtain⟨h1,h2⟩:=List.pairwise_cons.1 hp
  have hn:=h n (by simp)
  have:=Jp (L:=r) (a:=n.1+1) h2 (fun x hx=>⟨by have:=h1 x hx;omega,(h x (List.mem_cons_of_mem _ hx)).2⟩) (by omega)
  simp only[List.length_cons]
  omega
theorem bR.len{L:List Nd}(h:bR L):L.length≤8:=by
 have:=Jp (a:=1) h.up (fun n hn=>(h.ok n hn).1) (by decide)
 omega
theorem gK{L:List Nd}{id:Int}{n:Nd}(h:aD id L=some n):aS L id=n.2.2.1-n.2.2.2-bH id L:=by
 unfold aS OI eZ
 rw[h]
 simp only[(aj h).2]
def jh(j:Int)(L:List Nd):List Nd:=L.filter fun n=>decide (n.1<j)
theorem Jq{L:List Nd}(h:bR L):jh 1 L=[]:=by
 unfold jh
 rw[List.filter_eq_nil_iff]
 intro n hn
 have:=(h.ok n hn).1
 simp;omega
theorem EF{L:List Nd}(h:bR L):jh 9 L=L:=by
 unfold jh
 rw[List.filter_eq_self]
 intro n hn
 have:=(h.ok n hn).1
 simp;omega
theorem pG(j:Int):∀{L:List Nd},L.Pairwise (fun a b=>a.1<b.1)→jh (j+1) L=jh j L++(aD j L).toList
 |[],_=>by simp[jh,aD]
 | n ::r,hp=>by
  obtain⟨h1,h2⟩:=List.pairwise_cons.1 hp
  have ih:=pG j h2
  unfold jh at ih ⊢
  unfold aD
  by_cases c1:n.1<j
  ·rw[List.filter_cons_of_pos (by simp;omega),List.filter_cons_of_pos (by simpa using c1),if_neg (by omega),ih]
   rfl
  ·have hr:r.filter (fun n=>decide (n.1<j))=[]:=by
    rw[List.filter_eq_nil_iff]
    intro x hx
    have:=h1 x hx
    simp;omega
   by_cases c2:n.1=j
   ·have hr1:r.filter (fun n=>decide (n.1<j+1))=[]:=by
     rw[List.filter_eq_nil_iff]
     intro x hx
     have:=h1 x hx
     simp;omega
    rw[List.filter_cons_of_pos (by simp;omega),List.filter_cons_of_neg (by simpa using c1),if_pos c2,hr,hr1]
    rfl
   ·have hr1:r.filter (fun n=>decide (n.1<j+1))=[]:=by
     rw[List.filter_eq_nil_iff]
     intro x hx
     have:=h1 x hx
     simp;omega
    have hrn:aD j r=none:=by
     rw[dZ]
     intro x hx
     have:=h1 x hx
     omega
    rw[List.filter_cons_of_neg (by simp;omega),List.filter_cons_of_neg (by simpa using c1),if_neg c2,hr,hr1,hrn]
    rfl
theorem EG{L:List Nd}(h:bR L){j:Int}{n:Nd}(e:aD j L=some n):jh (j+1) L=jh j L++[n]:=by rw[pG j h.up,e];rfl
theorem OJ{L:List Nd}(h:bR L){j:Int}(e:aD j L=none):jh (j+1) L=jh j L:=by rw[pG j h.up,e];simp
def jF(x:Nd):List Nd→List Nd
 |[]=>[x]
 |n::r=>if n.1<x.1 then n::jF x r else x::n::r
theorem eG{x n:Nd}:∀{L:List Nd},n∈jF x L↔n=x∨n∈L
 |[]=>by simp[jF]
 | y::r=>by
  unfold jF
  split
  ·rw[List.mem_cons,eG,List.mem_cons]
   constructor
   ·rintro(h|h|h)<;>simp[h]
   ·rintro(h|h|h)<;>simp[h]
  ·simp
theorem xO{x:Nd}:∀{L:List Nd},L.Pairwise (fun a b=>a.1<b.1)→(∀n∈L,n.1≠x.1)→(jF x L).Pairwise (fun a b=>a.1<b.1)
 |[],_,_=>by simp[jF]
 | y::r,hp,hn=>by
  obtain⟨h1,h2⟩:=List.pairwise_cons.1 hp
  have hy:=hn y (by simp)
  unfold jF
  split
  ·rename_i c
   refine List.pairwise_cons.2 ⟨fun z hz=>?_,xO h2 (fun n h=>hn n (List.mem_cons_of_mem _ h))⟩
   rcases eG.1 hz with rfl|hz
   ·exact c
   ·exact h1 z hz
  ·rename_i c
   refine List.pairwise_cons.2 ⟨fun z hz=>?_,hp⟩
   rcases List.mem_cons.1 hz with rfl|hz
   ·omega
   ·have:=h1 z hz
    omega
theorem ji{x:Nd}{i:Int}:∀{L:List Nd},(∀n∈L,n.1≠x.1)→aD i (jF x L)=if i=x.1 then some x else aD i L
 |[],_=>by
  unfold jF aD
  by_cases h:x.1=i
  ·rw[if_pos h,if_pos h.symm]
  ·rw[if_neg h,if_neg (fun e=>h e.symm)];rfl
 | y::r,hn=>by
  have hy:=hn y (by simp)
  have ih:=ji (x:=x) (i:=i) (L:=r) (fun n h=>hn n (List.mem_cons_of_mem _ h))
  unfold jF
  split
  ·simp only[aD]
   rw[ih]
   by_cases h:y.1=i
   ·rw[if_pos h,if_neg (by omega),if_pos h]
   ·rw[if_neg h]
    by_cases h2:i=x.1
    ·rw[if_pos h2,if_pos h2]
    ·rw[if_neg h2,if_neg h2,if_neg h]
  ·simp only[aD]
   by_cases h2:i=x.1
   ·rw[if_pos h2.symm,if_pos h2]
   ·rw[if_neg (fun e=>h2 e.symm),if_neg h2]
theorem vk(i:Int)(x:Nd):∀(L:List Nd),bH i (jF x L)=(if x.2.1=i then x.2.2.1 else 0)+bH i L
 |[]=>rfl
 |y::r=>by
  unfold jF
  split
  ·simp only[bH,vk i x r];omega
  ·rfl
theorem bC{f:Nd→Nd}(hf:∀n,(f n).1=n.1)(i:Int):∀(L:List Nd),aD i (L.map f)=(aD i L).map f
 |[]=>rfl
 |y::r=>by
  simp only[List.map_cons,aD,hf]
  split
  ·rfl
  ·exact bC hf i r
theorem sj{f:Nd→Nd}(hf:∀n,(f n).1=n.1){L:List Nd}(h:L.Pairwise (fun a b=>a.1<b.1)):(L.map f).Pairwise (fun a b=>a.1<b.1):=by
 rw[List.pairwise_map]
 exact h.imp fun {a b} h=>by rw[hf,hf];exact h
def fT(id:Int)(L:List Nd):List Nd:=L.filter fun n=>n.1 !=id
theorem iF{id:Int}{L:List Nd}{n:Nd}:n∈fT id L↔n∈L∧n.1≠id:=by unfold fT;rw[List.mem_filter];simp
theorem iG(id i:Int):∀(L:List Nd),aD i (fT id L)=if i=id then none else aD i L
 |[]=>by simp[fT,aD]
 | y::r=>by
  have ih:=iG id i r
  unfold fT at ih ⊢
  by_cases c:y.1=id
  ·rw[List.filter_cons_of_neg (by simpa using c),ih]
   by_cases h:i=id
   ·rw[if_pos h,if_pos h]
   ·rw[if_neg h,if_neg h,aD,if_neg (by omega)]
  ·rw[List.filter_cons_of_pos (by simpa using c),aD,ih,aD]
   by_cases h:i=id
   ·rw[if_neg (by omega),if_pos h,if_pos h]
   ·rw[if_neg h,if_neg h]
theorem um{id:Int}{L:List Nd}(h:L.Pairwise (fun a b=>a.1<b.1)):(fT id L).Pairwise (fun a b=>a.1<b.1):=h.filter _
theorem EH{x:Nd}:∀{L:List Nd},(∀n∈L,n.1≠x.1)→fT x.1 (jF x L)=L
 |[],_=>by simp[jF,fT]
 | y::r,hn=>by
  have hy:=hn y (by simp)
  have ih:=EH (x:=x) (L:=r) (fun n h=>hn n (List.mem_cons_of_mem _ h))
  have hself:∀{L:List Nd},(∀n∈L,n.1≠x.1)→fT x.1 L=L:=fun h=>by
   unfold fT
   rw[List.filter_eq_self]
   intro n hm
   simpa using h n hm
  unfold jF
  split
  ·unfold fT at ih ⊢
   rw[List.filter_cons_of_pos (by simpa using hy),ih]
  ·have:=hself hn
   unfold fT at this ⊢
   rw[List.filter_cons_of_neg (by simp),this]
def jc(L:List Nd)(id up q:Int):Int:=if iw id q=true∧iw up q=true then(if aD up L=none then 4 else if aD id L≠none then 5 else if aS L up<q then 3 else 0)else 2
def dx(L:List Nd)(id up q:Int):List Nd:=if jc L id up q=0 then jF (id,up,q,0) L else L
def iy(L:List Nd)(id:Int):Int:=if iw id 0=true then(match aD id L with|none=>4|some n=>if id=1∨n.2.2.2≠0 then 9 else 0)else 2
def fP(id up:Int)(n:Nd):Nd:=if n.2.1=id then(n.1,up,n.2.2)else n
def MS(L:List Nd)(id:Int):Int:=((aD id L).getD default).2.1
def fq(L:List Nd)(id:Int):List Nd:=if iy L id=0 then(fT id L).map (fP id (MS L id))else L
def gW(id d:Int)(n:Nd):Nd:=if n.1=id then(n.1,n.2.1,n.2.2.1,n.2.2.2+d)else n
def aX(L:List Nd)(id n:Int):Int:=if iw id n=true then(if aD id L=none then 4 else if aS L id<n then 3 else 0)else 2
def aF(L:List Nd)(id n:Int):List Nd:=if aX L id n=0 then L.map (gW id n)else L
def fH(L:List Nd)(id n:Int):Int:=if iw id n=true then(match aD id L with|none=>4|some x=>if x.2.2.2<n then 9 else 0)else 2
def bI(L:List Nd)(id n:Int):List Nd:=if fH L id n=0 then L.map (gW id (-n))else L
theorem bN{id n:Int}:iw id n=true↔(1≤id∧id≤8)∧0≤n∧n≤65536:=by unfold iw;simp
theorem kC(id up:Int)(n:Nd):(fP id up n).1=n.1:=by unfold fP;split<;>rfl
theorem iV(id d:Int)(n:Nd):(gW id d n).1=n.1:=by unfold gW;split<;>rfl
theorem jO{L:List Nd}{id up q:Int}:jc L id up q=0↔(iw id q=true∧iw up q=true)∧(∃n,aD up L=some n)∧aD id L=none∧q≤aS L up:=by
 unfold jc
 constructor
 ·intro h
  split at h
  ·rename_i h1
   split at h
   ·cases h
   ·rename_i h2
    split at h
    ·cases h
    ·rename_i h3
     split at h
     ·cases h
     ·rename_i h4
      refine⟨h1,?_,by simpa using h3,by omega⟩
      cases e:aD up L with
      |none=>exact absurd e h2
      |some n=>exact⟨n,rfl⟩
  ·cases h
 ·rintro⟨h1,⟨n,h2⟩,h3,h4⟩
  rw[if_pos h1,if_neg (by rw[h2];simp),if_neg (by rw[h3];simp),if_neg (by omega)]
theorem kD{L:List Nd}{id:Int}:iy L id=0↔iw id 0=true∧id≠1∧∃n,aD id L=some n∧n.2.2.2=0:=by
 unfold iy
 constructor
 ·intro h
  split at h
  ·rename_i h1
   split at h
   ·cases h
   ·rename_i n h2
    split at h
    ·cases h
    ·rename_i h3
     exact⟨h1,by omega,n,h2,by omega⟩
  ·cases h
 ·rintro⟨h1,h2,n,h3,h4⟩
  rw[if_pos h1,h3]
  simp[h2,h4]
theorem fK{L:List Nd}{id n:Int}:aX L id n=0↔iw id n=true∧(∃x,aD id L=some x)∧n≤aS L id:=by
 unfold aX
 constructor
 ·intro h
  split at h
  ·rename_i h1
   split at h
   ·cases h
   ·rename_i h2
    split at h
    ·cases h
    ·rename_i h3
     refine⟨h1,?_,by omega⟩
     cases e:aD id L with
     |none=>exact absurd e h2
     |some n=>exact⟨n,rfl⟩
  ·cases h
 ·rintro⟨h1,⟨x,h2⟩,h3⟩
  rw[if_pos h1,if_neg (by rw[h2];simp),if_neg (by omega)]
theorem jk{L:List Nd}{id n:Int}:fH L id n=0↔iw id n=true∧∃x,aD id L=some x∧n≤x.2.2.2:=by
 unfold fH
 constructor
 ·intro h
  split at h
  ·rename_i h1
   split at h
   ·cases h
   ·rename_i x h2
    split at h
    ·cases h
    ·rename_i h3
     exact⟨h1,x,h2,by omega⟩
  ·cases h
 ·rintro⟨h1,x,h2,h3⟩
  rw[if_pos h1,h2]
  simp;omega
theorem bR.one(q:Int)(h0:0≤q)(h1:q≤65536):bR [(1,0,q,0)]:=⟨by simp,fun n hn=>by simp only[List.mem_singleton]at hn;subst hn;dsimp only[MR];omega⟩
theorem bR.open{L:List Nd}(h:bR L)(id up q:Int):bR (dx L id up q):=by
 unfold dx
 split
 ·rename_i e
  obtain⟨⟨h1,h2⟩,_,h3,_⟩:=jO.1 e
  rw[bN]at h1 h2
  refine⟨xO h.up (dZ.1 h3),fun n hn=>?_⟩
  rcases eG.1 hn with rfl|hn
  ·simp only[MR];omega
  ·exact h.ok n hn
 ·exact h
theorem Ba{L:List Nd}(h:bR L)(id:Int):0≤MS L id∧MS L id≤8:=by
 unfold MS
 cases e:aD id L with
 |none=>exact⟨by decide,by decide⟩
 |some n=>exact(h.ok n (aj e).1).2.1
theorem bR.close{L:List Nd}(h:bR L)(id:Int):bR (fq L id):=by
 unfold fq
 split
 ·refine⟨sj (kC _ _) (um h.up),fun n hn=>?_⟩
  obtain⟨m,hm,rfl⟩:=List.mem_map.1 hn
  have:=h.ok m (iF.1 hm).1
  have hu:=Ba h id
  unfold fP
  split
  ·exact⟨this.1,hu,this.2.2⟩
  ·exact this
 ·exact h
theorem bR.nE{L:List Nd}(h:bR L)(id n:Int):bR (aF L id n):=by
 unfold aF
 split
 ·rename_i e
  obtain⟨h1,⟨x,h2⟩,h3⟩:=fK.1 e
  rw[bN]at h1
  refine⟨sj (iV _ _) h.up,fun y hy=>?_⟩
  obtain⟨m,hm,rfl⟩:=List.mem_map.1 hy
  have:=h.ok m hm
  unfold gW
  split
  ·rename_i e2
   have hx:=dI h.up hm
   rw[e2,h2]at hx
   cases hx
   rw[gK h2]at h3
   have:=qB id h.ok
   simp only[MR]at*
   omega
  ·exact this
 ·exact h
theorem bR.oQ{L:List Nd}(h:bR L)(id n:Int):bR (bI L id n):=by
 unfold bI
 split
 ·rename_i e
  obtain⟨h1,x,h2,h3⟩:=jk.1 e
  rw[bN]at h1
  refine⟨sj (iV _ _) h.up,fun y hy=>?_⟩
  obtain⟨m,hm,rfl⟩:=List.mem_map.1 hy
  have:=h.ok m hm
  unfold gW
  split
  ·rename_i e2
   have hx:=dI h.up hm
   rw[e2,h2]at hx
   cases hx
   simp only[MR]at*
   omega
  ·exact this
 ·exact h
def ndV(n:Nd):List Value:=[.int .i64 n.1, .int .i64 n.2.1, .int .i64 n.2.2.1, .int .i64 n.2.2.2]
def su(L:List Nd):List Value:=L.flatMap ndV
theorem Jr(A B:List Nd):su (A++B)=su A++su B:=by simp[su]
theorem UY(n:Nd):su [n]=ndV n:=by simp[su]
theorem Js:∀(L:List Nd) (i:Nat),i<L.length→(su L)[i*4]? =some (.int .i64 (L.getD i default).1)∧(su L)[i*4+1]? =some (.int .i64 (L.getD i default).2.1)∧(su L)[i*4+2]? =some (.int .i64 (L.getD i default).2.2.1)∧(su L)[i*4+3]? =some (.int .i64 (L.getD i default).2.2.2)
 |y::l,0,_=>by simp[su,ndV]
 |y::l,i+1,h=>by
  obtain⟨a,b,c,d⟩:=Js l i (by simpa using h)
  have e:su (y::l)=ndV y++su l:=by simp[su]
  have hl:(ndV y).length=4:=rfl
  rw[e]
  refine⟨?_,?_,?_,?_⟩<;>rw[List.getElem?_append_right (by rw[hl];omega),hl]
  ·rw[show(i+1)*4-4=i*4 by omega,a];simp
  ·rw[show(i+1)*4+1-4=i*4+1 by omega,b];simp
  ·rw[show(i+1)*4+2-4=i*4+2 by omega,c];simp
  ·rw[show(i+1)*4+3-4=i*4+3 by omega,d];simp
end Go.Proofs.YtammlljefhakmaaGreatDoor
namespace Go.Proofs.YtammlljefhakmaaGreatDoor
open Go.RowKit Go.Maps
set_option maxRecDepth 100000
abbrev Pt:=Int→Option Nat
def UE:Option Nat→Int
 |none=> -1
 |some b=>(b:Int)
def Aa:Option Nat→Value
 |none=> .pointer none
 |some b=> .pointer (some ⟨b,0,none⟩)
def lQ:Value→Option (DataW Unit×List MemPlace)
 | .pointer none=>some (.lit (.int .i64 (-1)),[])
 | .pointer (some a)=>if a=⟨a.block,0,none⟩then some (.lit (.int .i64 (a.block:Int)),[])else none
 |_=>none
theorem vo(x:Option Nat):lQ (Aa x)=some (.lit (.int .i64 (UE x)),[]):=by
 cases x<;>simp[lQ,Aa,UE]
theorem jP{v:Value}{ps:List MemPlace}{x:Option Nat}(h:lQ v=some (.lit (.int .i64 (UE x)),ps)):v=Aa x:=by
 unfold lQ at h
 split at h
 ·cases x with
  |none=>rfl
  |some b=>simp[UE]at h
 ·rename_i a
  split at h
  ·rename_i e
   cases x with
   |none=>simp[UE]at h
   |some b=>
    simp[UE]at h
    have:a.block=b:=by omega
    rw[e,this];rfl
  ·cases h
 ·cases h
def gX(P:Pt)(x:Int)(v:Option Nat):Pt:=fun y=>if y=x then v else P y
theorem fU(P:Pt)(x:Int)(v:Option Nat):gX P x v x=v:=by simp[gX]
theorem bZ(P:Pt)(x:Int)(v:Option Nat){y:Int}(h:y≠x):gX P x v y=P y:=by simp[gX,h]
structure kE(D:DataW Unit)(P:Pt):Prop where
 at_:∀x:Int,D.atKey (.int .i64 x) (.lit (.int .i64 (-1)))= .lit (.int .i64 (UE (P x)))
 Ea:∀x:Int,Maps.has D (.int .i64 x)=(P x).isSome
 frames:Frames D
theorem kE.empty:kE (.map []) (fun _=>none):=⟨fun x=>by simp[UE];rfl,fun x=>by simp;rfl,[],rfl,List.Pairwise.nil,fun p hp=>by simp at hp⟩
theorem Frames.nG{D:DataW Unit}(h:Frames D)(x:Int)(hx:1≤x∧x≤8)(d:DataW Unit):Frames (D.put (.int .i64 x) d):=by
 obtain⟨x,rfl⟩:=Int.eq_ofNat_of_zero_le (show 0≤x by omega)
 exact h.put x (by omega) d
theorem kE.put{D:DataW Unit}{P:Pt}(h:kE D P)(x:Int)(hx:1≤x∧x≤8)(v:Option Nat)(hv:v.isSome=true):kE (D.put (.int .i64 x) (.lit (.int .i64 (UE v)))) (gX P x v):=
  ⟨fun y=>by
    by_cases e:y=x
    · subst e;rw[fU,atKey_put_same h.frames.isMap (AZ _ (by omega))]
    · rw[bZ _ _ _ e,atKey_put_other (r9 e),h.at_],
   fun y=>by
    by_cases e:y=x
    · subst e;rw[fU,has_put_same h.frames.isMap (AZ _ (by omega)),hv]
    · rw[bZ _ _ _ e,has_put_other (r9 e),h.Ea],h.frames.nG x hx _⟩
theorem kE.del{D:DataW Unit}{P:Pt}(h:kE D P)(x:Int):kE (D.del (.int .i64 x)) (gX P x none):=
  ⟨fun y=>by
    by_cases e:y=x
    · subst e;rw[fU,atKey_del_same];rfl
    · rw[bZ _ _ _ e,atKey_del_other (r9 e),h.at_],
   fun y=>by
    by_cases e:y=x
    · subst e;rw[fU,has_del_same];rfl
    · rw[bZ _ _ _ e,has_del_other (r9 e),h.Ea],h.frames.del _⟩
def aT(w:World)(m:Nat)(P:Pt):Prop:=∃(D:DataW Unit) (k:Nat),w.ownsMap Tryz.prog 3 lQ m k D∧k≤1024∧kE D P
theorem xP{w:World}{b k:Nat}{D:DataW Unit}(h:w.ownsMap Tryz.prog 3 lQ b k D)(m:Nat)(hm:Maps.size D≤m):w.ownsMap Tryz.prog 3 lQ b m D:=by
 obtain⟨es,clock,hb,F,_,rfl⟩:=h
 refine⟨es,clock,hb,F,?_,rfl⟩
 simpa[Maps.size,length_sorted]using hm
theorem aT.made(w:World):aT (w.alloc (.map #[] 0)) w.heap.size (fun _=>none):=⟨_,0,World.ownsMap_made _ _ _ _,by omega,kE.empty⟩
theorem aT.isMap{w:World}{b:Nat}{P:Pt}(h:aT w b P):∃es clock,w.heap[b]? =some (.map es clock):=by
 obtain⟨D,k,⟨es,clock,hb,_⟩,_⟩:=h
 exact⟨es,clock,hb⟩
theorem aT.lt{w:World}{b:Nat}{P:Pt}(h:aT w b P):b<w.heap.size:=by
 obtain⟨es,clock,hb⟩:=h.isMap
 exact lt_of_block hb
theorem aT.same{w w':World}{b:Nat}{P:Pt}(h:aT w b P)(e:w'.heap[b]? =w.heap[b]?):aT w' b P:=by
 obtain⟨D,k,⟨es,clock,hb,r⟩,hk,hr⟩:=h
 exact⟨D,k,⟨es,clock,e.trans hb,r⟩,hk,hr⟩
theorem OL(w:World):(zeroValue 185).run Tryz.prog w= .ok (.pointer none) w:=by kernel_rfl
section
variable (w:World) {ops:Array Oper} {rest:List Oper} {o:Oper} {a:Act} {Q:Exit→Act→World→Prop}
theorem gT(hg:o.guard=none)(m x:Operand)(hop:o.op=Op.lookup 188 m x true)(b:Nat)(P:Pt)(hm:a.eval m= .map (some b))(h:aT w b P)(y:Int)(hx:a.eval x= .int .i64 y)(hy: -9223372036854775808≤y∧y≤9223372036854775807)(c:Option Nat)(hc:P y=c)
  (hK:wpList Tryz.prog ops Q rest (a.put o.dst (.tuple #[Aa c, .bool c.isSome])) w):wpList Tryz.prog ops Q (o::rest) a w:=by
 obtain⟨D,k,hown,_,hr⟩:=h
 refine wpList_lookup_own_ok w hg m x 188 hop 3 185 qA Tryz.underlying188 lQ (OL _) (.lit (.int .i64 (-1))) [] rfl b k D hm hown (.int .i64 y) (.int .i64 y) hx (gJ y hy) fun v ps hv=>?_
 rw[hr.at_ y,hc]at hv
 rw[hr.Ea y,hc,jP hv]
 exact hK
theorem rC(hg:o.guard=none)(m x:Operand)(hop:o.op=Op.lookup 188 m x false)(b:Nat)(P:Pt)(hm:a.eval m= .map (some b))(h:aT w b P)(y:Int)(hx:a.eval x= .int .i64 y)(hy: -9223372036854775808≤y∧y≤9223372036854775807)(c:Option Nat)(hc:P y=c)
  (hK:wpList Tryz.prog ops Q rest (a.put o.dst (Aa c)) w):wpList Tryz.prog ops Q (o::rest) a w:=by
 obtain⟨D,k,hown,_,hr⟩:=h
 refine wpList_plain hg fun K' hK'=>?_
 obtain⟨v,ps,hrun,hv⟩:=hown.lookup qA Tryz.underlying188 (OL w) (zd:= .lit (.int .i64 (-1))) (zp:=[]) rfl (gJ y hy)
 rw[hr.at_ y,hc]at hv
 rw[jP hv]at hrun
 unfold Oper.wp
 simp[execOp,hop,hm,hx,hrun,Result.andThen]
 exact hK' _ _ hK
theorem Bb(hg:o.guard=none)(m x v:Operand)(hop:o.op=Op.mapUpdate 188 m x v)(b:Nat)(P:Pt)(hm:a.eval m= .map (some b))(h:aT w b P)(y:Int)(hx:a.eval x= .int .i64 y)(hy:1≤y∧y≤8)(c:Nat)(hv:a.eval v= .pointer (some ⟨c,0,none⟩))
  (hK:∀w',aT w' b (gX P y (some c))→w.grownBy w' (some b)→wpList Tryz.prog ops Q rest (a.put o.dst undef) w'):wpList Tryz.prog ops Q (o::rest) a w:=by
 obtain⟨D,k,hown,hk,hr⟩:=h
 refine wpList_mapUpdate_own _ hg m x v 188 hop 3 185 qA Tryz.underlying188 _ b k D hm hown (by unfold maxLen;omega) (.int .i64 y) (.pointer (some ⟨c,0,none⟩)) (.int .i64 y) hx hv (gJ _ (by omega)) (.lit (.int .i64 (UE (some c)))) [] (vo (some c)) fun w' h1 h2=>?_
 have hr':=hr.put y hy (some c) rfl
 exact hK w' ⟨_,1024,xP h1 1024 hr'.frames.size,Nat.le_refl _,hr'⟩ h2
end
def wo(n:Nd):Obj:= .cells #[.int .i64 n.1, .int .i64 n.2.1, .int .i64 n.2.2.1, .int .i64 n.2.2.2] 155 (0,0)
def agS(m:Nat):Obj:= .cells #[.map (some m)] 190 (0,0)
theorem dU{w:World}{p:Nat}{n:Nd}(h:w.heap[p]? =some (wo n)):w.cell? ⟨p,0,none⟩=some (.int .i64 n.1)∧w.cell? ⟨p,1,none⟩=some (.int .i64 n.2.1)∧w.cell? ⟨p,2,none⟩=some (.int .i64 n.2.2.1)∧w.cell? ⟨p,3,none⟩=some (.int .i64 n.2.2.2)∧(∀i,w.frozen? ⟨p,i,none⟩=false):=D9 h
structure bA(w:World)(b m:Nat)(P:Pt)(L:List Nd):Prop where
 box:w.heap[b]? =some (agS m)
 map:aT w m P
 out:∀id,aD id L=none→P id=none
 inn:∀id n,aD id L=some n→∃p,P id=some p∧w.heap[p]? =some (wo n)
 good:bR L
theorem bA.cell{w:World}{b m:Nat}{P:Pt}{L:List Nd}(h:bA w b m P L):w.cell? ⟨b,0,none⟩=some (.map (some m)):=by rw[cell_of_row w b 0 _ _ _ h.box];rfl
def bB(m:Nat)(P:Pt)(k:Nat):Prop:=k=m∨∃id,P id=some k
theorem bA.node{w:World}{b m:Nat}{P:Pt}{L:List Nd}(h:bA w b m P L){id:Int}{p:Nat}(hp:P id=some p):∃n,aD id L=some n∧w.heap[p]? =some (wo n):=by
 cases e:aD id L with
 |none=>rw[h.out id e]at hp;cases hp
 |some n=>
  obtain⟨p',h1,h2⟩:=h.inn id n e
  rw[h1]at hp
  cases hp
  exact⟨n,rfl,h2⟩
theorem bA.lt{w:World}{b m:Nat}{P:Pt}{L:List Nd}(h:bA w b m P L){k:Nat}(hk:bB m P k):k<w.heap.size:=by
 rcases hk with rfl|⟨id,hp⟩
 ·exact h.map.lt
 ·obtain⟨n,_,h2⟩:=h.node hp
  exact lt_of_block h2
theorem bA.vv{w:World}{b m:Nat}{P:Pt}{L:List Nd}(h:bA w b m P L):¬bB m P b:=by
 rintro(e|⟨id,hp⟩)
 ·obtain⟨es,ck,hm⟩:=h.map.isMap
  have:=h.box
  rw[e,hm]at this
  cases this
 ·obtain⟨n,_,h2⟩:=h.node hp
  have:=h.box
  rw[h2]at this
  exact absurd (show(some 155:Option Nat)=some 190 from congrArg kindOf (Option.some.inj this)) (by decide)
theorem bA.kF{w:World}{b m:Nat}{P:Pt}{L:List Nd}(h:bA w b m P L)(id:Int):P id≠some m:=fun hp=>by
 obtain⟨n,_,h2⟩:=h.node hp
 obtain⟨es,ck,hm⟩:=h.map.isMap
 rw[hm]at h2
 cases h2
theorem bA.inj{w:World}{b m:Nat}{P:Pt}{L:List Nd}(h:bA w b m P L){i j:Int}{p:Nat}(h1:P i=some p)(h2:P j=some p):i=j:=by
 obtain⟨n,a1,a2⟩:=h.node h1
 obtain⟨k,b1,b2⟩:=h.node h2
 have hi:=(aj a1).2
 have hj:=(aj b1).2
 rw[a2]at b2
 simp only[wo,Option.some.injEq,Obj.cells.injEq,and_true]at b2
 have:=congrArg (fun c:Array Value=>c[0]?) b2
 simp at this
 omega
theorem bA.kept{w w':World}{b m:Nat}{P:Pt}{L:List Nd}(h:bA w b m P L)(h0:w'.heap[b]? =w.heap[b]?)(hk:∀k,bB m P k→w'.heap[k]? =w.heap[k]?):bA w' b m P L:=
 ⟨h0.trans h.box,h.map.same (hk m (Or.inl rfl)),h.out,fun id n e=>by
  obtain⟨p,h1,h2⟩:=h.inn id n e
  exact⟨p,h1,(hk p (Or.inr ⟨id,h1⟩)).trans h2⟩,h.good⟩
theorem bA.step{w w':World}{b m:Nat}{P:Pt}{L:List Nd}(h:bA w b m P L)(hb:Below w.heap.size w w'):bA w' b m P L:=
 h.kept (hb.block _ (lt_of_block h.box)) (fun _ hk=>hb.block _ (h.lt hk))
structure Turned(w w':World)(b m:Nat)(P:Pt)(L':List Nd):Prop where
 ex:∃P',bA w' b m P' L'∧∀id p,P' id=some p→P id=some p∨w.heap.size≤p
 only:Only w w' (bB m P)
theorem Turned.stay{w w':World}{b m:Nat}{P:Pt}{L:List Nd}(h:bA w b m P L)(hb:Below w.heap.size w w'):Turned w w' b m P L:=
 ⟨⟨P,h.step hb,fun _ _ e=>Or.inl e⟩,Only.below hb⟩
theorem zn(n:Int)(w:World):Calls Tryz.prog 126 #[.int .i64 n] w fun e w'=>e= .returned (.bool (decide (0≤n∧n≤65536)))∧w=w':=by
 by_cases h1:0≤n
 ·by_cases h2:n≤65536
  ·rw[decide_eq_true (And.intro h1 h2)]
   go_enter Tryz.func126,Tryz.ntmps126
   go_wp2
   go_ret
   exact⟨rfl,rfl⟩
  ·rw[decide_eq_false (fun h=>h2 h.2)]
   go_enter Tryz.func126,Tryz.ntmps126
   go_wp2
   go_ret
   exact⟨rfl,rfl⟩
 ·rw[decide_eq_false (fun h=>h1 h.1)]
  go_enter Tryz.func126,Tryz.ntmps126
  go_wp2
  go_ret
  exact⟨rfl,rfl⟩
theorem OQ(n:Int)(w:World):Calls Tryz.prog 205 #[.int .i64 n] w fun e w'=>e= .returned (.bool (decide (1≤n∧n≤8)))∧w=w':=by
 by_cases h1:1≤n
 ·by_cases h2:n≤8
  ·rw[decide_eq_true (And.intro h1 h2)]
   go_enter Tryz.func205,Tryz.ntmps205
   go_wp2
   go_ret
   exact⟨rfl,rfl⟩
  ·rw[decide_eq_false (fun h=>h2 h.2)]
   go_enter Tryz.func205,Tryz.ntmps205
   go_wp2
   go_ret
   exact⟨rfl,rfl⟩
 ·rw[decide_eq_false (fun h=>h1 h.1)]
  go_enter Tryz.func205,Tryz.ntmps205
  go_wp2
  go_ret
  exact⟨rfl,rfl⟩
def Bc(w:World)(p:Option Addr):Prop:=p=none∨∃b,p=some ⟨b,0,none⟩∧w.cell? ⟨b,0,none⟩=some (.map none)
theorem zo(p:Option Addr)(w:World)(h:Bc w p):Calls Tryz.prog 150 #[.pointer p] w fun e w'=>e= .returned (.bool false)∧w=w':=by
 have hm:=run_neq_map_nil (P:=Tryz.prog) w 188 3 185 none Tryz.underlying188
 rcases h with rfl|⟨b,rfl,hc⟩
 all_goals
  go_enter Tryz.func150,Tryz.ntmps150
  go_wp2
  go_ret
  exact⟨rfl,rfl⟩
theorem nH(b m:Nat)(w:World)(hc:w.cell? ⟨b,0,none⟩=some (.map (some m))):Calls Tryz.prog 150 #[.pointer (some ⟨b,0,none⟩)] w fun e w'=>e= .returned (.bool true)∧w=w':=by
 have hm:=run_neq_map_nil (P:=Tryz.prog) w 188 3 185 (some m) Tryz.underlying188
 go_enter Tryz.func150,Tryz.ntmps150
 go_wp2
 go_ret
 exact⟨rfl,rfl⟩
end Go.Proofs.YtammlljefhakmaaGreatDoor
namespace Go.Proofs.YtammlljefhakmaaGreatDoor
open Go.RowKit Go.Maps
set_option maxRecDepth 100000
def zq(n:Int):Bool:=decide (0≤n∧n≤65536)
def oz(n:Int):Bool:=decide (1≤n∧n≤8)
theorem Ak(id n:Int):iw id n=(oz id&&zq n):=rfl
def wu(there:Bool)(n:Int)(ids:List Int):Int:=if there=true then(if zq n=true then(if ids.all oz=true then 0 else 2)else 2)else 1
theorem EI{ids:List Int}{j:Nat}(h:j<ids.length)(h1:(ids.take j).all oz=true)(h2:oz (ids.getD j 0)=true):(ids.take (j+1)).all oz=true:=by
 have e:ids.getD j 0=ids[j]:=by simp[List.getD_eq_getElem?_getD,h]
 rw[List.take_succ_eq_append_getElem h,List.all_append,h1,←e]
 simpa using h2
theorem Bd{ids:List Int}{j:Nat}(h:j<ids.length)(h2:oz (ids.getD j 0)=false):ids.all oz=false:=by
 have e:ids.getD j 0=ids[j]:=by simp[List.getD_eq_getElem?_getD,h]
 cases ha:ids.all oz with
 |false=>rfl
 |true=>
  rw[List.all_eq_true]at ha
  have:=ha _ (List.getElem_mem h)
  rw[←e,h2]at this
  cases this
set_option maxHeartbeats 1000000 in
theorem Jt(p:Option Addr)(there:Bool)(n:Int)(ids:List Int)(g k:Nat)(w:World)(hk:k=ids.length)(hp:Calls Tryz.prog 150 #[.pointer p] w fun e w'=>e= .returned (.bool there)∧w=w')(hl:k≤2)(hc:∀i,i<k→w.cell? ⟨g,i,none⟩=some (.int .i64 (ids.getD i 0))):
  Calls Tryz.prog 149 #[.pointer p, .int .i64 n, .slice (some ⟨g,0,none⟩) k k] w fun e w'=>e= .returned (.int .i64 (wu there n ids))∧w=w':=by
 have HP:=Lib.hid hp
 have HC:=Lib.hid hc
 have HK:=Lib.hid hk
 clear hp hc hk
 go_enter Tryz.func149,Tryz.ntmps149
 go_wp2_with fail
 refine HP.out.mono ?_
 rintro e w1 ⟨rfl,rfl⟩
 cases there with
 |false=>
  go_wp2
  go_ret
  exact⟨rfl,rfl⟩
 | true=>
  go_wp2_with fail
  refine(zn n _).mono ?_
  rintro e w1 ⟨rfl,rfl⟩
  cases hn:zq n with
  |false=>
   have hn':decide (0≤n∧n≤65536)=false:=hn
   rw[hn']
   go_wp2
   go_ret
   exact⟨by unfold wu;rw[if_pos rfl,hn];rfl,rfl⟩
  | true=>
   have hn':decide (0≤n∧n≤65536)=true:=hn
   rw[hn']
   have HN:=Lib.hid hn
   clear hn hn'
   go_wp2_with fail
   go_loopw [17] (fun i wr=>∃j:Nat,i= .int .i64 (j:Int)∧j≤k∧wr=w∧(ids.take j).all oz=true) (fun i _=>(k-(intOf i).toNat))
   case atStart=>exact⟨0,rfl,Nat.zero_le _,rfl,by simp⟩
   case round=>
    obtain⟨j,rfl,hj,rfl,hall⟩:=hrel
    have ALL:=Lib.hid hall
    clear hall
    by_cases hlt:j<k
    ·have c0:=HC.out j hlt
     cases hb:oz (ids.getD j 0)with
     |false=>
      have hb':decide (1≤ids.getD j 0∧ids.getD j 0≤8)=false:=hb
      have NB:=Lib.hid (Bd (by have:=HK.out;omega) hb)
      generalize ids.getD j 0=x at*
      go_wp2_with fail
      refine(OQ x _).mono ?_
      rintro e w1 ⟨rfl,rfl⟩
      rw[hb']
      go_wp2
      go_ret
      exact⟨by unfold wu;rw[if_pos rfl,HN.out,if_pos rfl,NB.out];rfl,rfl⟩
     |true=>
      have A2:=Lib.hid (EI (by have:=HK.out;omega) ALL.out hb)
      have hb':decide (1≤ids.getD j 0∧ids.getD j 0≤8)=true:=hb
      generalize ids.getD j 0=x at*
      go_wp2_with fail
      refine(OQ x _).mono ?_
      rintro e w1 ⟨rfl,rfl⟩
      rw[hb']
      go_wp2
      go_roundw
      case rel=>exact⟨j+1,by go_num,by omega,by trivial,A2.out⟩
      case measure=>simp[intOf];omega
    ·obtain rfl:j=k:=by omega
     have e:ids.all oz=true:=by have:=ALL.out;rwa [HK.out,List.take_length]at this
     have E:=Lib.hid e
     clear hlt e
     go_wp2
     go_ret
     exact⟨by unfold wu;rw[if_pos rfl,HN.out,if_pos rfl,E.out];rfl,rfl⟩
set_option maxHeartbeats 1000000 in
theorem Ht(k:Nat)(caps:Array Value)(hent:∀(args:Array Value) (W:World),(callFunc k args).run Tryz.prog W= .ok (.enter k args) W)(b m:Nat)(P:Pt)(J:Int→World→Prop)(w:World)
  (hat:∀j V,J j V→V.cell? ⟨b,0,none⟩=some (.map (some m))∧aT V m P)
  (hin:∀j p V,1≤j→j≤8→P j=some p→J j V→Calls Tryz.prog k (#[.pointer (some ⟨p,0,none⟩)]++caps) V fun e w'=>e= .returned (.tuple #[])∧J (j+1) w')
  (hout:∀j V,1≤j→j≤8→P j=none→J j V→J (j+1) V)(h1:J 1 w):
  Calls Tryz.prog 112 #[.pointer (some ⟨b,0,none⟩), .func (.func k) #[] caps] w fun e w'=>e= .returned (.tuple #[])∧J 9 w':=by
 have HAT:=Lib.hid hat
 have HIN:=Lib.hid hin
 have agT:=Lib.hid hout
 have H1:=Lib.hid h1
 clear hat hin hout h1
 go_enter Tryz.func112,Tryz.ntmps112
 go_wp2_with fail
 go_loopw [4] (fun i wr=>∃j:Int,i= .int .i64 j∧1≤j∧j≤9∧J j wr) (fun i _=>(9-intOf i).toNat)
 case atStart=>exact⟨1,rfl,by decide,by decide,H1.out⟩
 case round=>
  obtain⟨j,rfl,hj1,hj9,hJ⟩:=hrel
  have HJ:=Lib.hid hJ
  clear hJ
  by_cases hlt:j≤8
  ·obtain⟨c0,hmp⟩:=HAT.out j wr HJ.out
   have MP:=Lib.hid hmp
   clear hmp
   cases YP:P j with
   |none=>
    have N1:=Lib.hid (agT.out j wr hj1 hlt YP HJ.out)
    have HPJ:=Lib.hid YP
    clear YP
    go_wp2_with(refine gT _ rfl (.tmp 15) (.tmp 16) rfl m P rfl MP.out j rfl (by omega) none HPJ.out ?_)
    go_roundw
    case rel=>exact⟨j+1,by go_num,by omega,by omega,N1.out⟩
    case measure=>simp[intOf];omega
   |some p=>
    have HPJ:=Lib.hid YP
    clear YP
    go_wp2_with(first|(refine gT _ rfl (.tmp 15) (.tmp 16) rfl m P rfl MP.out j rfl (by omega) (some p) HPJ.out ?_)|fail)
    refine(HIN.out j p _ hj1 hlt HPJ.out HJ.out).mono ?_
    rintro e w2 ⟨rfl,hJ2⟩
    have J2:=Lib.hid hJ2
    clear hJ2
    go_wp2
    go_roundw
    case rel=>exact⟨j+1,by go_num,by omega,by omega,J2.out⟩
    case measure=>simp[intOf];omega
  ·obtain rfl:j=9:=by omega
   clear hlt hj1 hj9
   go_wp2
   go_end0
   exact⟨rfl,HJ.out⟩
end Go.Proofs.YtammlljefhakmaaGreatDoor
namespace Go.Proofs.YtammlljefhakmaaGreatDoor
open Go.RowKit Go.Maps
set_option maxRecDepth 100000
theorem Hu(args:Array Value)(W:World):(callFunc 175 args).run Tryz.prog W= .ok (.enter 175 args) W:=enters Tryz.func175 rfl rfl args W
theorem sw{w:World}{k:Nat}{a:Value}{t:TypeId}(h:w.heap[k]? =some (.cells #[a] t (0,0))):w.cell? ⟨k,0,none⟩=some a∧w.frozen? ⟨k,0,none⟩=false:=
 ⟨cell_of_one h,free_of_one h⟩
theorem Ri(p bo bl q:Nat)(n o:Nd)(w:World)(hn:w.heap[p]? =some (wo n))(hq:w.heap[q]? =some (wo o))(hbo:w.heap[bo]? =some (.cells #[.pointer (some ⟨q,0,none⟩)] 185 (0,0)))(hne:n.2.1≠o.1):
  Calls Tryz.prog 175 #[.pointer (some ⟨p,0,none⟩), .pointer (some ⟨bo,0,none⟩), .pointer (some ⟨bl,0,none⟩)] w fun e w'=>e= .returned (.tuple #[])∧∃k,w'=w.drewN k:=by
 obtain⟨a0,a1,a2,a3, -⟩:=dU hn
 obtain⟨b0,b1,b2,b3, -⟩:=dU hq
 obtain⟨c0, -⟩:=sw hbo
 have he:(n.2.1==o.1)=false:=by simpa using hne
 clear hn hq hbo hne
 generalize n.2.1=x at*
 generalize o.1=y at*
 go_enter Tryz.func175,Tryz.ntmps175
 go_wp2
 go_quiet (fail)
 go_wp2
 go_end0
 exact⟨rfl,_,rfl⟩
theorem MU(p bo bl q:Nat)(n o:Nd)(s d:Int)(w:World)(hn:w.heap[p]? =some (wo n))(hq:w.heap[q]? =some (wo o))(hbo:w.heap[bo]? =some (.cells #[.pointer (some ⟨q,0,none⟩)] 185 (0,0)))(hbl:w.heap[bl]? =some (.cells #[.int .i64 s] 3 (0,0)))(hne:n.2.1=o.1)
  (hs: -1000000≤s∧s≤65536)(hok:MR n)(hd:d=s-n.2.2.1):
  Calls Tryz.prog 175 #[.pointer (some ⟨p,0,none⟩), .pointer (some ⟨bo,0,none⟩), .pointer (some ⟨bl,0,none⟩)] w fun e w'=>e= .returned (.tuple #[])∧w'.heap[bl]? =some (.cells #[.int .i64 d] 3 (0,0))∧w.grownBy w' (some bl):=by
 obtain⟨a0,a1,a2,a3, -⟩:=dU hn
 obtain⟨b0,b1,b2,b3, -⟩:=dU hq
 obtain⟨c0, -⟩:=sw hbo
 obtain⟨d0,f0⟩:=sw hbl
 have he:(n.2.1==o.1)=true:=by simpa using hne
 have hq2:=hok.2.2.1
 have HD:=Lib.hid hd
 have HBL:=Lib.hid hbl
 clear hn hq hbo hbl hne hok hd
 generalize n.2.1=x at*
 generalize n.2.2.1=z at*
 generalize o.1=y at*
 have hw:IntKind.i64.wrap (s-z)=s-z:=IntWalk.i64_in _ (by omega)
 go_enter Tryz.func175,Tryz.ntmps175
 go_wp2
 go_quiet (fail)
 go_wp2
 obtain⟨W2,hW2⟩:∃W2,W2=w.drewN nq:=⟨_,rfl⟩
 have g0:W2.cell? ⟨p,2,none⟩=some (.int .i64 z):=by rw[hW2];exact a2
 have g1:W2.cell? ⟨bl,0,none⟩=some (.int .i64 s):=by rw[hW2];exact d0
 have g2:W2.frozen? ⟨bl,0,none⟩=false:=by rw[hW2];exact f0
 have G3:Hid (W2.heap[bl]? =some (.cells #[.int .i64 s] 3 (0,0))∧w.grownBy W2 (some bl)):=Lib.hid (by rw[hW2];exact⟨HBL.out,aP (below_drewN (Below.refl _ _) _) _⟩)
 rw[←hW2]
 clear hW2 a0 a1 a2 a3 b0 b1 b2 b3 c0 d0 f0 he
 go_still_tail 6,(by kernel_rfl)
 go_wp2
 go_end0
 refine⟨rfl,?_,grownBy_trans G3.out.2 (ku (grownBy_setCell _ _ _ _) rfl rfl rfl rfl)⟩
 have:=heap_setCell_same W2 bl 0 _ _ (.int .i64 (s-z)) G3.out.1
 rw[HD.out]
 exact this
structure OT(w:World)(b m:Nat)(P:Pt)(L:List Nd)(q:Nat)(n:Nd)(j:Int)(V:World):Prop where
 st:bA V b m P L
 below:Below w.heap.size w V
 node:V.heap[w.heap.size]? =some (.cells #[.pointer (some ⟨q,0,none⟩)] 185 (0,0))
 left:V.heap[w.heap.size+1]? =some (.cells #[.int .i64 (n.2.2.1-n.2.2.2-bH n.1 (jh j L))] 3 (0,0))
theorem Bf{L:List Nd}(h:bR L)(j:Int):(∀n∈jh j L,MR n)∧(jh j L).length≤8:=
 ⟨fun n hn=>h.ok n (List.mem_filter.1 hn).1,Nat.le_trans (List.length_filter_le _ _) h.len⟩
theorem MX{w:World}{b m:Nat}{P:Pt}{L:List Nd}{q:Nat}{n:Nd}{j:Int}{V:World}(h:OT w b m P L q n j V)(hq:P n.1=some q)(hn:aD n.1 L=some n){p:Nat}(hp:P j=some p):
  Calls Tryz.prog 175 #[.pointer (some ⟨p,0,none⟩), .pointer (some ⟨w.heap.size,0,none⟩), .pointer (some ⟨w.heap.size+1,0,none⟩)] V fun e w'=>e= .returned (.tuple #[])∧OT w b m P L q n (j+1) w':=by
 obtain⟨x,hx,hpx⟩:=h.st.node hp
 obtain⟨n',hn',hqn⟩:=h.st.node hq
 obtain rfl:n=n':=by rw[hn]at hn';exact Option.some.inj hn'
 have hg:=h.st.good
 have e1:=EG hg hx
 have hox:=hg.ok x (aj hx).1
 have hon:=hg.ok n (aj hn).1
 have hsb:=qB n.1 (Bf hg j).1
 have hsl:=(Bf hg j).2
 have e2:bH n.1 (jh (j+1) L)=bH n.1 (jh j L)+(if x.2.1=n.1 then x.2.2.1 else 0):=by rw[e1,Hr];simp[bH]
 by_cases hu:x.2.1=n.1
 ·refine(MU p _ _ q x n _ (n.2.2.1-n.2.2.2-bH n.1 (jh (j+1) L)) V hpx hqn h.node h.left hu (by omega) hox (by rw[e2,if_pos hu];omega)).mono ?_
  rintro e w' ⟨rfl,h1,h2⟩
  have hbl:¬bB m P (w.heap.size+1):=by
   rintro(e|⟨id,hp⟩)
   ·obtain⟨es,ck,hm⟩:=h.st.map.isMap
    have:=h.left
    rw[e,hm]at this
    cases this
   ·obtain⟨y,_,h3⟩:=h.st.node hp
    have:=h.left
    rw[h3]at this
    exact absurd (show(some 155:Option Nat)=some 3 from congrArg kindOf (Option.some.inj this)) (by decide)
  have hne:b≠w.heap.size+1:=fun e=>by
   have:=h.st.box
   rw[e,h.left]at this
   exact absurd (show(some 3:Option Nat)=some 190 from congrArg kindOf (Option.some.inj this)) (by decide)
  exact⟨rfl,h.st.kept (h2.block _ (lt_of_block h.st.box) (fun e=>hne (Option.some.inj e))) (fun k hk=>h2.block k (h.st.lt hk) (fun e=>hbl (Option.some.inj e▸hk))),
   h.below.trans (kZ h2 h.below.size (by omega)),(h2.block _ (lt_of_block h.node) (fun e=>by have:=Option.some.inj e;omega)).trans h.node,h1⟩
 ·refine(Ri p _ (w.heap.size+1) q x n V hpx hqn h.node hu).mono ?_
  rintro e w' ⟨rfl,k,rfl⟩
  have hb:Below V.heap.size V (V.drewN k):=below_drewN (Below.refl _ _) k
  refine⟨rfl,h.st.step hb,below_drewN h.below k,h.node,?_⟩
  rw[e2,if_neg hu,Int.add_zero]
  exact h.left
set_option maxHeartbeats 1000000 in
theorem sD{w:World}{b m:Nat}{P:Pt}{L:List Nd}{q:Nat}{n:Nd}(h:bA w b m P L)(hq:P n.1=some q)(hn:aD n.1 L=some n):
  Calls Tryz.prog 120 #[.pointer (some ⟨b,0,none⟩), .pointer (some ⟨q,0,none⟩)] w fun e w'=>e= .returned (.int .i64 (eZ L n))∧Below w.heap.size w w':=by
 have pE:∀(fn:Fn) (first cap:Array Value) (w:World),(Instr.makeFunc fn first cap).run Tryz.prog w= .ok (.func fn first cap) w:=fun _ _ _ _=>rfl
 obtain⟨n',hn',hqn⟩:=h.node hq
 obtain rfl:n=n':=by rw[hn]at hn';exact Option.some.inj hn'
 have Zf:=lt_of_block hqn
 have hok:=h.good.ok n (aj hn).1
 obtain⟨a0,a1,a2,a3, -⟩:=dU hqn
 have HK:=Lib.hid (show MR n from hok)
 have hw:IntKind.i64.wrap (n.2.2.1-n.2.2.2)=n.2.2.1-n.2.2.2:=IntWalk.i64_in _ (by omega)
 obtain⟨w1,hw1⟩:∃w1,w1=w.alloc (.cells #[.pointer (some ⟨q,0,none⟩)] 185):=⟨_,rfl⟩
 have B1:Hid (Below w.heap.size w w1):=Lib.hid (by rw[hw1];exact(Below.refl _ _).alloc (Nat.le_refl _) _)
 have N1:Hid (w1.heap[w.heap.size]? =some (.cells #[.pointer (some ⟨q,0,none⟩)] 185 (0,0))):=Lib.hid (by rw[hw1];exact heap_alloc_new w _)
 have S1:Hid (w1.heap.size=w.heap.size+1):=Lib.hid (by rw[hw1];simp)
 have H:=Lib.hid h
 have HQ:=Lib.hid hq
 have HN:=Lib.hid hn
 have g2:w1.cell? ⟨q,2,none⟩=some (.int .i64 n.2.2.1):=(B1.out.cell (p:=⟨q,2,none⟩) Zf).trans a2
 have g3:w1.cell? ⟨q,3,none⟩=some (.int .i64 n.2.2.2):=(B1.out.cell (p:=⟨q,3,none⟩) Zf).trans a3
 have g0:=cell_of_one N1.out
 clear h hq hn hn' hok
 go_enter Tryz.func120,Tryz.ntmps120
 go_wp2_with fail
 rw[←hw1]
 clear hw1 a0 a1 a2 a3 hqn
 have BA:Hid (Below w1.heap.size w1 (w1.alloc (.cells #[.int .i64 0] 3)).drew):=Lib.hid ((Below.refl _ _).alloc (Nat.le_refl _) _).drew
 have k0:(w1.alloc (.cells #[.int .i64 0] 3)).drew.cell? ⟨w.heap.size,0,none⟩=some (.pointer (some ⟨q,0,none⟩)):=(BA.out.cell (p:=⟨_,0,none⟩) (by rw[S1.out];exact Nat.lt_succ_self _)).trans g0
 have k2:(w1.alloc (.cells #[.int .i64 0] 3)).drew.cell? ⟨q,2,none⟩=some (.int .i64 n.2.2.1):=(BA.out.cell (p:=⟨_,2,none⟩) (by rw[S1.out];exact Nat.lt_succ_of_lt Zf)).trans g2
 have k3:(w1.alloc (.cells #[.int .i64 0] 3)).drew.cell? ⟨q,3,none⟩=some (.int .i64 n.2.2.2):=(BA.out.cell (p:=⟨_,3,none⟩) (by rw[S1.out];exact Nat.lt_succ_of_lt Zf)).trans g3
 go_region
 rw[S1.out]
 clear k0 k2 k3 g0 g2 g3
 obtain⟨w2,hw2⟩:∃w2,w2=(w1.alloc (.cells #[.int .i64 (n.2.2.1-n.2.2.2)] 3)).drew:=⟨_,rfl⟩
 have L2:Hid (OT w b m P L q n 1 w2):=Lib.hid (by
  have hb:Below w1.heap.size w1 w2:=by rw[hw2];exact((Below.refl _ _).alloc (Nat.le_refl _) _).drew
  have hbw:=B1.out.trans (hb.mono B1.out.size)
  refine⟨H.out.step hbw,hbw,below_block hb N1.out,?_⟩
  rw[Jq H.out.good,hw2,←S1.out,show bH n.1 []=0 from rfl,Int.sub_zero]
  exact heap_alloc_new w1 _)
 rw[←hw2]
 clear hw2
 go_wp2_with fail
 refine(Ht 175 #[.pointer (some ⟨w.heap.size,0,none⟩), .pointer (some ⟨w.heap.size+1,0,none⟩)] Hu b m P (fun j V=>OT w b m P L q n j V) _ (fun j V hV=>⟨hV.st.cell,hV.st.map⟩) (fun j p V _ _ hp hV=>MX hV HQ.out HN.out hp) (fun j V _ _ hp hV=>?_) L2.out).mono ?_
 ·have hno:aD j L=none:=by
   cases e:aD j L with
   |none=>rfl
   |some x=>
    obtain⟨p',h1,_⟩:=H.out.inn j x e
    rw[hp]at h1
    cases h1
  refine⟨hV.st,hV.below,hV.node,?_⟩
  rw[OJ H.out.good hno]
  exact hV.left
 rintro e w3 ⟨rfl,hL⟩
 have B3:=Lib.hid hL.below
 have c3:=cell_of_one hL.left
 rw[EF H.out.good]at c3
 clear hL
 go_wp2
 go_ret
 exact⟨rfl,B3.out⟩
def l5(L:List Nd)(id n:Int):Int:=if iw id n=true then(if aD id L=none then 4 else 0)else 2
def Eb(P:Pt)(e id:Int):Option Nat:=if e=0 then P id else none
theorem MZ{id:Int}(h:oz id=true):1≤id∧id≤8:=by unfold oz at h;simpa using h
theorem Hw(p:Option Addr)(there:Bool)(n id:Int)(g:Nat)(w:World)(hp:Calls Tryz.prog 150 #[.pointer p] w fun e w'=>e= .returned (.bool there)∧w=w')(hg:w.heap[g]? =some (.cells #[.int .i64 id] 3 (0,0))){er:Int}(he:wu there n [id]=er):
  Calls Tryz.prog 149 #[.pointer p, .int .i64 n, .slice (some ⟨g,0,none⟩) 1 1] w fun e w'=>e= .returned (.int .i64 er)∧w=w':=by
 rw[←he]
 refine Jt p there n [id] g 1 w rfl hp (by decide) (fun i hi=>?_)
 obtain rfl:i=0:=by omega
 exact cell_of_one hg
set_option maxHeartbeats 1000000 in
theorem UZ(p:Option Addr)(there:Bool)(id n er:Int)(w:World)(hp:∀W,Below w.heap.size w W→Calls Tryz.prog 150 #[.pointer p] W fun e w'=>e= .returned (.bool there)∧W=w')(he:wu there n [id]=er)(hne:(er !=0)=true):
  Calls Tryz.prog 111 #[.pointer p, .int .i64 id, .int .i64 n] w fun e w'=>e= .returned (.tuple #[.pointer none, .int .i64 er])∧Below w.heap.size w w':=by
 obtain⟨w1,hw1⟩:∃w1,w1=w.alloc (.cells #[.int .i64 id] 3):=⟨_,rfl⟩
 have B1:Hid (Below w.heap.size w w1):=Lib.hid (by rw[hw1];exact(Below.refl _ _).alloc (Nat.le_refl _) _)
 have N1:Hid (w1.heap[w.heap.size]? =some (.cells #[.int .i64 id] 3 (0,0))):=Lib.hid (by rw[hw1];exact heap_alloc_new w _)
 have HE:=Lib.hid he
 have HP:=Lib.hid (hp _ B1.out)
 clear he hp
 go_enter Tryz.func111,Tryz.ntmps111
 go_wp2_with fail
 rw[←hw1]
 clear hw1
 refine(Hw p there n id w.heap.size w1 HP.out N1.out HE.out).mono ?_
 rintro e w2 ⟨rfl,rfl⟩
 go_wp2
 go_ret2
 exact⟨rfl,B1.out⟩
set_option maxHeartbeats 1000000 in
theorem aey{w:World}{b m:Nat}{P:Pt}{L:List Nd}(h:bA w b m P L)(id n:Int)(he:wu true n [id]=0)(hib:1≤id∧id≤8):
  (P id=none→Calls Tryz.prog 111 #[.pointer (some ⟨b,0,none⟩), .int .i64 id, .int .i64 n] w fun e w'=>e= .returned (.tuple #[.pointer none, .int .i64 4])∧Below w.heap.size w w')∧
  ∀p,P id=some p→Calls Tryz.prog 111 #[.pointer (some ⟨b,0,none⟩), .int .i64 id, .int .i64 n] w fun e w'=>e= .returned (.tuple #[.pointer (some ⟨p,0,none⟩), .int .i64 0])∧Below w.heap.size w w':=by
 obtain⟨w1,hw1⟩:∃w1,w1=w.alloc (.cells #[.int .i64 id] 3):=⟨_,rfl⟩
 have B1:Hid (Below w.heap.size w w1):=Lib.hid (by rw[hw1];exact(Below.refl _ _).alloc (Nat.le_refl _) _)
 have N1:Hid (w1.heap[w.heap.size]? =some (.cells #[.int .i64 id] 3 (0,0))):=Lib.hid (by rw[hw1];exact heap_alloc_new w _)
 have C1:=Lib.hid ((h.step B1.out).cell)
 have M1:=Lib.hid ((h.step B1.out).map)
 have HE:=Lib.hid he
 clear h he
 refine⟨fun hp=>?_,fun p hp=>?_⟩
 ·have HP:=Lib.hid hp
  clear hp
  go_enter Tryz.func111,Tryz.ntmps111
  go_wp2_with fail
  rw[←hw1]
  clear hw1
  refine(Hw _ true n id w.heap.size w1 (nH b m w1 C1.out) N1.out HE.out).mono ?_
  rintro e w2 ⟨rfl,rfl⟩
  have c1:=C1.out
  go_wp2_with(refine gT _ rfl (.tmp 23) (.tmp 24) rfl m P rfl M1.out id rfl (by omega) none HP.out ?_)
  go_ret2
  exact⟨rfl,B1.out⟩
 ·have HP:=Lib.hid hp
  clear hp
  go_enter Tryz.func111,Tryz.ntmps111
  go_wp2_with fail
  rw[←hw1]
  clear hw1
  refine(Hw _ true n id w.heap.size w1 (nH b m w1 C1.out) N1.out HE.out).mono ?_
  rintro e w2 ⟨rfl,rfl⟩
  have c1:=C1.out
  go_wp2_with(refine gT _ rfl (.tmp 23) (.tmp 24) rfl m P rfl M1.out id rfl (by omega) (some p) HP.out ?_)
  go_ret2
  exact⟨rfl,B1.out⟩
theorem oU{w:World}{b m:Nat}{P:Pt}{L:List Nd}(h:bA w b m P L)(id n:Int){er:Int}{pt:Option Nat}(he:l5 L id n=er)(hp:Eb P er id=pt):
  Calls Tryz.prog 111 #[.pointer (some ⟨b,0,none⟩), .int .i64 id, .int .i64 n] w fun e w'=>e= .returned (.tuple #[Aa pt, .int .i64 er])∧Below w.heap.size w w':=by
 subst he hp
 have two:iw id n=false→l5 L id n=2∧wu true n [id]=2:=fun hf=>by
  refine⟨by unfold l5;rw[if_neg (by rw[hf];decide)],?_⟩
  unfold wu
  rw[Ak]at hf
  cases hn:zq n<;>cases hi:oz id<;>simp_all
 cases hf:iw id n with
 |false=>
  obtain⟨e1,e2⟩:=two hf
  rw[e1]
  exact UZ _ true id n 2 w (fun W hb=>nH b m W (h.step hb).cell) e2 rfl
 | true=>
  have hf':=hf
  rw[Ak,Bool.and_eq_true]at hf'
  have e1:wu true n [id]=0:=by unfold wu;rw[if_pos rfl,hf'.2,if_pos rfl];simp[hf'.1]
  obtain⟨h1,h2⟩:=aey h id n e1 (MZ hf'.1)
  cases ha:aD id L with
  |none=>
   have e2:l5 L id n=4:=by unfold l5;rw[if_pos hf,if_pos ha]
   rw[e2]
   exact h1 (h.out id ha)
  |some x=>
   obtain⟨p,hp,_⟩:=h.inn id x ha
   have e2:l5 L id n=0:=by unfold l5;rw[if_pos hf,if_neg (by rw[ha];simp)]
   rw[e2,show Eb P 0 id=some p by unfold Eb;rw[if_pos rfl];exact hp]
   exact h2 p hp
theorem Bc.step{w w':World}{p:Option Addr}(h:Bc w p)(hb:Below w.heap.size w w'):Bc w' p:=by
 rcases h with h|⟨b,h,k⟩
 ·exact Or.inl h
 ·exact Or.inr ⟨b,h,(hb.cell (p:=⟨b,0,none⟩) (block_lt_of_cell k)).trans k⟩
theorem ac2(p:Option Addr)(id n:Int)(w:World)(h:Bc w p):
  Calls Tryz.prog 111 #[.pointer p, .int .i64 id, .int .i64 n] w fun e w'=>e= .returned (.tuple #[.pointer none, .int .i64 1])∧Below w.heap.size w w':=
 UZ p false id n 1 w (fun W hb=>zo p W (h.step hb)) rfl rfl
theorem Ju{L:List Nd}{id:Int}(h:iw id 0=true){n:Nd}(ha:aD id L=some n):l5 L id 0=0:=by unfold l5;rw[if_pos h,if_neg (by rw[ha];simp)]
theorem bR.fits{L:List Nd}(h:bR L){id:Int}{n:Nd}(ha:aD id L=some n):iw id 0=true:=by
 have:=h.ok n (aj ha).1
 have e:=(aj ha).2
 rw[bN]
 omega
theorem U0{L:List Nd}{id n:Int}(ha:aD id L=none):l5 L id n≠0:=by
 unfold l5
 rw[if_pos ha]
 split<;>decide
set_option maxHeartbeats 1000000 in
theorem U3{w:World}{b m:Nat}{P:Pt}{L:List Nd}(h:bA w b m P L)(id:Int){d:Int}(hd:aS L id=d):
  Calls Tryz.prog 64 #[.pointer (some ⟨b,0,none⟩), .int .i64 id] w fun e w'=>e= .returned (.int .i64 d)∧Below w.heap.size w w':=by
 have H:=Lib.hid h
 clear h
 cases ha:aD id L with
 |none=>
  have hd0:d=0:=by rw[←hd];unfold aS;rw[ha];rfl
  subst hd0
  have he:=U0 (n:=0) ha
  obtain⟨er,her⟩:∃er,l5 L id 0=er:=⟨_,rfl⟩
  rw[her]at he
  have OF:=Lib.hid (oU H.out id 0 her (show Eb P er id=none by unfold Eb;rw[if_neg he]))
  have hne:(er !=0)=true:=by simpa using he
  clear hd ha her he
  go_enter Tryz.func64,Tryz.ntmps64
  go_wp2_with fail
  refine OF.out.mono ?_
  rintro e w1 ⟨rfl,hb⟩
  have B1:=Lib.hid hb
  clear hb
  go_wp2
  go_ret
  exact⟨rfl,B1.out⟩
 |some n=>
  obtain⟨q,hq,_⟩:=H.out.inn id n ha
  have hid:=(aj ha).2
  have OF:=Lib.hid (oU H.out id 0 (Ju (H.out.good.fits ha) ha) (show Eb P 0 id=some q by unfold Eb;rw[if_pos rfl];exact hq))
  have hdn:d=eZ L n:=by rw[←hd];unfold aS;rw[ha];rfl
  have HD:=Lib.hid hdn
  have HQ:Hid (P n.1=some q):=Lib.hid (by rw[hid];exact hq)
  have HN:Hid (aD n.1 L=some n):=Lib.hid (by rw[hid];exact ha)
  clear hd ha hq hdn hid
  go_enter Tryz.func64,Tryz.ntmps64
  go_wp2_with fail
  refine OF.out.mono ?_
  rintro e w1 ⟨rfl,hb⟩
  have B1:=Lib.hid hb
  have H1:=Lib.hid (H.out.step hb)
  clear hb
  unfold Aa
  go_wp2_with fail
  refine(sD H1.out HQ.out HN.out).mono ?_
  rintro e w2 ⟨rfl,hb⟩
  have B2:=Lib.hid (B1.out.trans (hb.mono B1.out.size))
  clear hb
  go_wp2
  go_ret
  exact⟨by rw[HD.out];rfl,B2.out⟩
theorem Rj(p:Option Addr)(id:Int)(w:World)(h:Bc w p):
  Calls Tryz.prog 64 #[.pointer p, .int .i64 id] w fun e w'=>e= .returned (.int .i64 0)∧Below w.heap.size w w':=by
 go_enter Tryz.func64,Tryz.ntmps64
 go_wp2_with fail
 refine(ac2 p id 0 w h).mono ?_
 rintro e w1 ⟨rfl,hb⟩
 have B1:=Lib.hid hb
 clear hb
 go_wp2
 go_ret
 exact⟨rfl,B1.out⟩
end Go.Proofs.YtammlljefhakmaaGreatDoor
namespace Go.Proofs.YtammlljefhakmaaGreatDoor
open Go.RowKit Go.Maps
set_option maxRecDepth 100000
theorem nodeInfo:(Tryz.prog.info? 155).map (fun i=>(i.zero,i.size,i.bytes))=some (some (.agg #[.int .i64 0, .int .i64 0, .int .i64 0, .int .i64 0]),4,32):=by kernel_rfl
theorem U4(w:World)(a b c d:Int)(t:TypeId):∀j u,[Value.int .i64 a, .int .i64 b, .int .i64 c, .int .i64 d][j]? =some u→(w.alloc (.cells #[.int .i64 a, .int .i64 b, .int .i64 c, .int .i64 d] t)).cell? ((⟨w.heap.size,0,none⟩:Addr).add j)=some u:=fun j u hu=>by
 rw[Addr.add_mid,Nat.zero_add,cell_of_row _ _ _ _ _ _ (heap_alloc_new w _)]
 simpa using hu
theorem Jv(args:Array Value)(W:World):(callFunc 151 args).run Tryz.prog W= .ok (.enter 151 args) W:=enters Tryz.func151 rfl rfl args W
theorem Bg{w:World}{base k n bl:Nat}{e t:TypeId}{v u:Value}{xs:List Value}{cs:Array Value}(h:w.ownsRow base e k v n xs)(hb:w.heap[bl]? =some (.cells cs t (0,0)))(hne:e≠t):(w.setCell ⟨bl,0,none⟩ u).ownsRow base e k v n xs:=
 h.kept (grownBy_setCell w bl 0 u) (by
  cases hv:v.ownBlock with
  |none=>exact Or.inl rfl
  |some g=>
   refine Or.inr fun e2=>?_
   obtain⟨cs',hcs⟩:=bF h hv
   cases e2
   rw[hb]at hcs
   cases hcs
   exact hne rfl)
set_option maxHeartbeats 2000000 in
theorem aez(p bl base k:Nat)(a b c d:Int)(v:Value)(xs:List Value)(w:World)(hn:w.heap[p]? =some (wo (a,b,c,d)))(hbl:w.heap[bl]? =some (.cells #[v] 152 (0,0)))(ho:w.ownsRow base 155 4 v k xs)(hk:k≤8)(hbs:base≤w.heap.size):
    Calls Tryz.prog 151 #[.pointer (some ⟨p,0,none⟩), .pointer (some ⟨bl,0,none⟩)] w fun e w'=>e= .returned (.tuple #[])∧(∃v',w'.heap[bl]? =some (.cells #[v'] 152 (0,0))∧w'.ownsRow base 155 4 v' (k+1) (xs++[.int .i64 a, .int .i64 b, .int .i64 c, .int .i64 d]))∧Only w w' (fun i=>i=bl∨v.ownBlock=some i):=by
  obtain⟨ie,hi,hi0,hi1,hi2⟩:=info_parts nodeInfo
  obtain⟨a0,a1,a2,a3, -⟩:=dU hn
  obtain⟨d0,f0⟩:=sw hbl
  simp only at a0 a1 a2 a3
  have hpl:=lt_of_block hn
  have ajd:=lt_of_block hbl
  have HBL:=Lib.hid hbl
  have HO:=Lib.hid ho
  have ZB:=Lib.hid hbs
  obtain⟨wa,oD⟩:∃wa,wa=w.drew.alloc (.cells #[.int .i64 a, .int .i64 b, .int .i64 c, .int .i64 d] 155):=⟨_,rfl⟩
  have BA:Hid (Below w.heap.size w wa):=Lib.hid (by rw[oD];exact(Below.refl _ _).drew.alloc (Nat.le_refl _) _)
  have OA:Hid (wa.ownsRow base 155 4 v k xs):=Lib.hid (gN ho BA.out)
  have Bh:=Lib.hid (U4 w.drew a b c d 155)
  have ZA:Hid (base≤wa.heap.size):=Lib.hid (Nat.le_trans hbs BA.out.size)
  rw[oD]at OA ZA
  have BA2:=BA
  rw[oD]at BA2
  clear hn hbl ho oD hbs
  go_enter Tryz.func151,Tryz.ntmps151
  go_wp2_with fail
  go_region_law (first
    | (refine step_append_lies _ (by rfl) _ _ _ (by rfl) base 155 ie (.agg #[.int .i64 0, .int .i64 0, .int .i64 0, .int .i64 0]) 4 32 Tryz.underlying152 hi hi0 hi1 hi2 rfl (by omega) v k xs (by rfl) OA.out ⟨w.drew.heap.size,0,none⟩ 1 1 [.int .i64 a, .int .i64 b, .int .i64 c, .int .i64 d] (by rfl) (by rfl) Bh.out (by simp[Value.oneCell']) (by omega) (by unfold maxLen;omega) (by omega) ZA.out (w.drew.heap.size+1) (by simp) ?_
       intro gg cap w4 ho hg hat agU
       have OO:=Lib.hid ho
       have GG:=Lib.hid hg
       have hb4:w4.heap[bl]? =some (.cells #[v] 152 (0,0)):=(hg.block bl (lt_of_block (below_block BA2.out HBL.out)) (fun e=>by
         obtain⟨cs,hcs⟩:=bF OA.out e.symm
         rw[below_block BA2.out HBL.out]at hcs
         exact absurd (show(some 152:Option Nat)=some 155 from congrArg kindOf (Option.some.inj hcs)) (by decide))).trans (below_block BA2.out HBL.out)
       have B4:=Lib.hid hb4
       obtain⟨y1,f1⟩:=sw hb4
       clear ho hg hat hb4))
  all_goals
    go_wp2
    go_end0
    refine⟨rfl,⟨_,heap_setCell_same _ bl 0 _ _ _ B4.out,?_⟩,?_⟩
    · exact Bg OO.out B4.out (by decide)
    · exact((Only.below BA2.out).trans ((Only.mk GG.out.os GG.out.tape GG.out.output GG.out.size (fun i hi hB=>GG.out.block i hi (fun e=>hB (Or.inr e.symm)))))).trans (Only.grown (grownBy_setCell _ _ _ _) (Or.inl rfl))
section
variable (w:World) {ops:Array Oper} {rest:List Oper} {o:Oper} {a:Act} {Q:Exit→Act→World→Prop}
theorem wz(hg:o.guard=none)(m x:Operand)(hop:o.op=Op.lookup 188 m x false)(b:Nat)(P:Pt)(hm:a.eval m= .map (some b))(h:aT w b P)(y:Int)(hx:a.eval x= .int .i64 y)(hy: -9223372036854775808≤y∧y≤9223372036854775807)(hc:P y=none)
  (hK:wpList Tryz.prog ops Q rest (a.put o.dst (.pointer none)) w):wpList Tryz.prog ops Q (o::rest) a w:=rC w hg m x hop b P hm h y hx hy none hc hK
theorem Hy(hg:o.guard=none)(m x:Operand)(hop:o.op=Op.lookup 188 m x false)(b:Nat)(P:Pt)(hm:a.eval m= .map (some b))(h:aT w b P)(y:Int)(hx:a.eval x= .int .i64 y)(hy: -9223372036854775808≤y∧y≤9223372036854775807)(p:Nat)(hc:P y=some p)
  (hK:wpList Tryz.prog ops Q rest (a.put o.dst (.pointer (some ⟨p,0,none⟩))) w):wpList Tryz.prog ops Q (o::rest) a w:=rC w hg m x hop b P hm h y hx hy (some p) hc hK
theorem M4(hg:o.guard=none)(m x:Operand)(hop:o.op=Op.lookup 188 m x true)(b:Nat)(P:Pt)(hm:a.eval m= .map (some b))(h:aT w b P)(y:Int)(hx:a.eval x= .int .i64 y)(hy: -9223372036854775808≤y∧y≤9223372036854775807)(hc:P y=none)
  (hK:wpList Tryz.prog ops Q rest (a.put o.dst (.tuple #[.pointer none, .bool false])) w):wpList Tryz.prog ops Q (o::rest) a w:=gT w hg m x hop b P hm h y hx hy none hc hK
theorem vw(hg:o.guard=none)(m x:Operand)(hop:o.op=Op.lookup 188 m x true)(b:Nat)(P:Pt)(hm:a.eval m= .map (some b))(h:aT w b P)(y:Int)(hx:a.eval x= .int .i64 y)(hy: -9223372036854775808≤y∧y≤9223372036854775807)(p:Nat)(hc:P y=some p)
  (hK:wpList Tryz.prog ops Q rest (a.put o.dst (.tuple #[.pointer (some ⟨p,0,none⟩), .bool true])) w):wpList Tryz.prog ops Q (o::rest) a w:=gT w hg m x hop b P hm h y hx hy (some p) hc hK
end
structure Al(w:World)(L:List Nd)(j:Int)(V:World):Prop where
 below:Below w.heap.size w V
 row:∃v,V.heap[w.heap.size]? =some (.cells #[v] 152 (0,0))∧V.ownsRow w.heap.size 155 4 v (jh j L).length (su (jh j L))
theorem Rk{w:World}{b m:Nat}{P:Pt}{L:List Nd}(h:bA w b m P L){j:Int}{V:World}(hV:Al w L j V){p:Nat}(hp:P j=some p):
  Calls Tryz.prog 151 #[.pointer (some ⟨p,0,none⟩), .pointer (some ⟨w.heap.size,0,none⟩)] V fun e w'=>e= .returned (.tuple #[])∧Al w L (j+1) w':=by
 obtain⟨v,h1,h2⟩:=hV.row
 obtain⟨⟨a,b',c,d⟩,hx,hpx⟩:=(h.step hV.below).node hp
 refine(aez p w.heap.size w.heap.size _ a b' c d v _ V hpx h1 h2 (Bf h.good j).2 hV.below.size).mono ?_
 rintro e w' ⟨rfl,⟨v',h3,h4⟩,h5⟩
 refine⟨rfl,Only.old hV.below h5 hV.below.size (fun k hk=>?_),v',h3,?_⟩
 ·rcases hk with rfl|hk
  ·exact Nat.le_refl _
  ·exact(h2.lt k hk).1
 ·rw[EG h.good hx,List.length_append,Jr,UY]
  exact h4
theorem U5{w:World}{b m:Nat}{P:Pt}{L:List Nd}(h:bA w b m P L){j:Int}(hp:P j=none):aD j L=none:=by
 cases e:aD j L with
 |none=>rfl
 |some x=>
  obtain⟨p',h1,_⟩:=h.inn j x e
  rw[hp]at h1
  cases h1
def EJ(w:World)(L:List Nd)(e:Ending)(w':World):Prop:=∃v,e= .returned v∧w'.ownsRow w.heap.size 155 4 v L.length (su L)∧Below w.heap.size w w'
set_option maxHeartbeats 1000000 in
theorem uo{w:World}{b m:Nat}{P:Pt}{L:List Nd}(h:bA w b m P L):
  Calls Tryz.prog 90 #[.pointer (some ⟨b,0,none⟩)] w (EJ w L):=by
 have pE:∀(fn:Fn) (first cap:Array Value) (w:World),(Instr.makeFunc fn first cap).run Tryz.prog w= .ok (.func fn first cap) w:=fun _ _ _ _=>rfl
 obtain⟨w1,hw1⟩:∃w1,w1=w.alloc (.cells #[.slice none 0 0] 152):=⟨_,rfl⟩
 have A1:Hid (Al w L 1 w1):=Lib.hid (by
  rw[hw1]
  refine⟨(Below.refl _ _).alloc (Nat.le_refl _) _,_,heap_alloc_new w _,?_⟩
  rw[Jq h.good]
  exact World.ownsRow_nil _ _ _ _)
 have H:=Lib.hid h
 clear h
 go_enter Tryz.func90,Tryz.ntmps90
 go_wp2_with fail
 refine(nH b m w H.out.cell).mono ?_
 rintro e w' ⟨rfl,rfl⟩
 go_wp2_with fail
 rw[←hw1]
 clear hw1
 refine(Ht 151 #[.pointer (some ⟨w.heap.size,0,none⟩)] Jv b m P (Al w L) _ (fun j V hV=>⟨(H.out.step hV.below).cell,(H.out.step hV.below).map⟩) (fun j p V _ _ hp hV=>Rk H.out hV hp) (fun j V _ _ hp hV=>?_) A1.out).mono ?_
 ·refine⟨hV.below,?_⟩
  rw[OJ H.out.good (U5 H.out hp)]
  exact hV.row
 rintro e w2 ⟨rfl,hb,v,h1,h2⟩
 rw[EF H.out.good]at h2
 have B2:=Lib.hid hb
 have R2:=Lib.hid h2
 have c0:=cell_of_one h1
 clear hb h1 h2
 go_wp2
 go_ret
 exact⟨_,rfl,R2.out,B2.out⟩
theorem Rl(p:Option Addr)(w:World)(h:Bc w p):
  Calls Tryz.prog 90 #[.pointer p] w fun e w'=>e= .returned (.slice none 0 0)∧Below w.heap.size w w':=by
 go_enter Tryz.func90,Tryz.ntmps90
 go_wp2_with fail
 refine(zo p w h).mono ?_
 rintro e w' ⟨rfl,rfl⟩
 go_wp2
 go_ret
 exact⟨rfl,Below.refl _ _⟩
set_option maxHeartbeats 1000000 in
theorem OU(b m:Nat)(P:Pt)(id up q:Int)(w:World)(hc:w.cell? ⟨b,0,none⟩=some (.map (some m)))(hp:aT w m P)(hid:1≤id∧id≤8):
  Calls Tryz.prog 127 #[.pointer (some ⟨b,0,none⟩), .int .i64 id, .int .i64 up, .int .i64 q] w fun e w'=>e= .returned (.tuple #[])∧aT w' m (gX P id (some w.heap.size))∧w'.heap[w.heap.size]? =some (wo (id,up,q,0))∧w.grownBy w' (some m):=by
 have hml:=hp.lt
 obtain⟨w1,hw1⟩:∃w1,w1=w.alloc (.cells #[.int .i64 id, .int .i64 up, .int .i64 q, .int .i64 0] 155):=⟨_,rfl⟩
 have B1:Hid (Below w.heap.size w w1):=Lib.hid (by rw[hw1];exact(Below.refl _ _).alloc (Nat.le_refl _) _)
 have N1:Hid (w1.heap[w.heap.size]? =some (wo (id,up,q,0))):=Lib.hid (by rw[hw1];exact heap_alloc_new w _)
 have P1:Hid (aT w1 m P):=Lib.hid (hp.same (B1.out.block m hml))
 rw[hw1]at P1
 have E1:=Lib.hid hw1
 clear hp hw1
 go_enter Tryz.func127,Tryz.ntmps127
 go_wp2_with(refine Bb _ rfl (.tmp 11) (.tmp 12) (.tmp 17) rfl m P rfl P1.out id rfl hid w.heap.size rfl ?_;intro w2 hp2 hg2;have P2:=Lib.hid hp2;have G2:=Lib.hid hg2;clear hp2 hg2)
 go_end0
 have hg:w1.grownBy w2 (some m):=by rw[E1.out];exact G2.out
 exact⟨rfl,P2.out,(hg.block _ (lt_of_block N1.out) (fun e=>by have:=Option.some.inj e;omega)).trans N1.out,grownBy_trans (aP B1.out _) hg⟩
theorem bA.add{w w':World}{b m:Nat}{P:Pt}{L:List Nd}(h:bA w b m P L){id up q:Int}(hno:aD id L=none)(hg:bR (jF (id,up,q,0) L))(h1:aT w' m (gX P id (some w.heap.size)))(h2:w'.heap[w.heap.size]? =some (wo (id,up,q,0)))(h3:w.grownBy w' (some m)):
  Turned w w' b m P (jF (id,up,q,0) L):=by
 refine⟨⟨_,⟨(h3.block _ (lt_of_block h.box) (fun e=>?_)).trans h.box,h1,fun i e=>?_,fun i n e=>?_,hg⟩,fun i p e=>?_⟩,Only.grown h3 (Or.inl rfl)⟩
 ·exact h.vv (Or.inl (Option.some.inj e))
 ·rw[ji (dZ.1 hno)]at e
  split at e
  ·cases e
  ·rename_i hne
   rw[bZ _ _ _ hne]
   exact h.out i e
 ·rw[ji (dZ.1 hno)]at e
  split at e
  ·rename_i he
   cases e
   exact⟨w.heap.size,by rw[he];exact fU _ _ _,h2⟩
  ·rename_i hne
   obtain⟨p,hp,hpn⟩:=h.inn i n e
   exact⟨p,by rw[bZ _ _ _ hne];exact hp,(h3.block _ (lt_of_block hpn) (fun e=>h.kF i (by rw[hp,Option.some.inj e]))).trans hpn⟩
 ·by_cases hi:i=id
  ·subst hi
   rw[fU]at e
   cases e
   exact Or.inr (Nat.le_refl _)
  ·rw[bZ _ _ _ hi]at e
   exact Or.inl e
end Go.Proofs.YtammlljefhakmaaGreatDoor
namespace Go.Proofs.YtammlljefhakmaaGreatDoor
open Go.RowKit Go.Maps
set_option maxRecDepth 100000
theorem bA.turn{w w':World}{b m:Nat}{P:Pt}{L L':List Nd}(h:bA w b m P L){j:Int}{p:Nat}{x':Nd}(hp:P j=some p)(hw:w'.heap[p]? =some (wo x'))(hg:w.grownBy w' (some p))(h1:aD j L'=some x')(h2:∀i,i≠j→aD i L'=aD i L)(h3:bR L'):bA w' b m P L':=by
 have hbl:¬bB m P b:=h.vv
 refine⟨(hg.block _ (lt_of_block h.box) (fun e=>hbl (Or.inr ⟨j,by rw[hp,Option.some.inj e]⟩))).trans h.box,h.map.same (hg.block _ h.map.lt (fun e=>h.kF j (by rw[hp,Option.some.inj e]))),fun i e=>?_,fun i n e=>?_,h3⟩
 ·by_cases hi:i=j
  ·subst hi;rw[h1]at e;cases e
  ·rw[h2 i hi]at e
   exact h.out i e
 ·by_cases hi:i=j
  ·subst hi
   rw[h1]at e
   cases e
   exact⟨p,hp,hw⟩
  ·rw[h2 i hi]at e
   obtain⟨p',hp',hpn⟩:=h.inn i n e
   exact⟨p',hp',(hg.block _ (lt_of_block hpn) (fun e2=>hi (h.inj hp' (by rw[hp,Option.some.inj e2])))).trans hpn⟩
theorem Turned.ahead{w w2 w3:World}{b m:Nat}{P:Pt}{L':List Nd}(hb:Below w.heap.size w w2)(T:Turned w2 w3 b m P L'):Turned w w3 b m P L':=by
 obtain⟨⟨P',h1,h2⟩,h3⟩:=T
 exact⟨⟨P',h1,fun i p e=>(h2 i p e).imp id (Nat.le_trans hb.size)⟩,(Only.below hb).trans h3⟩
theorem Turned.node{w w':World}{b m:Nat}{P:Pt}{L L':List Nd}(h:bA w b m P L){j:Int}{p:Nat}{x':Nd}(hp:P j=some p)(hw:w'.heap[p]? =some (wo x'))(hg:w.grownBy w' (some p))(h1:aD j L'=some x')(h2:∀i,i≠j→aD i L'=aD i L)(h3:bR L'):Turned w w' b m P L':=
 ⟨⟨P,h.turn hp hw hg h1 h2 h3,fun _ _ e=>Or.inl e⟩,Only.grown hg (Or.inr ⟨j,hp⟩)⟩
structure aeB(q:Int)(W:World)(e:Ending)(w:World):Prop where
 ex:∃b m P,e= .returned (.tuple #[.pointer (some ⟨b,0,none⟩), .int .i64 0])∧bA w b m P [(1,0,q,0)]∧W.heap.size≤b∧(∀k,bB m P k→W.heap.size≤k)
 below:Below W.heap.size W w
set_option maxHeartbeats 1000000 in
theorem Jw(q:Int)(w:World)(h:zq q=true):Calls Tryz.prog 71 #[.int .i64 q] w (aeB q w):=by
 have h':decide (0≤q∧q≤65536)=true:=h
 have hq:0≤q∧q≤65536:=by simpa using h'
 obtain⟨w1,hw1⟩:∃w1,w1=(w.alloc (.map #[] 0)).alloc (.cells #[.map (some w.heap.size)] 190):=⟨_,rfl⟩
 have B1:Hid (Below w.heap.size w w1):=Lib.hid (by rw[hw1];exact ak _ _ _)
 have H1:Hid (bA w1 (w.heap.size+1) w.heap.size (fun _=>none) []):=Lib.hid (by
  rw[hw1]
  exact⟨heap_alloc2_new _ _ _,(aT.made w).same (((Below.refl _ _).alloc (Nat.le_refl _) _).block _ (by simp)),fun _ _=>rfl,fun i n e=>(by simp[aD]at e),by simp,by simp⟩)
 have HQ:=Lib.hid hq
 have hmm:=@run_makeMap Tryz.prog
 clear h hq
 go_enter Tryz.func71,Tryz.ntmps71
 go_wp2_with fail
 refine(zn q w).mono ?_
 rw[h']
 rintro e w' ⟨rfl,rfl⟩
 go_wp2_with fail
 rw[←hw1]
 clear hw1
 refine(OU _ _ _ 1 0 q w1 H1.out.cell H1.out.map (by decide)).mono ?_
 rintro e w2 ⟨rfl,h1,h2,h3⟩
 have T:=Lib.hid (H1.out.add (up:=0) (q:=q) rfl (bR.one q HQ.out.1 HQ.out.2) h1 h2 h3)
 clear h1 h2 h3
 go_wp2
 go_ret2
 obtain⟨⟨P',t1,t2⟩,t3⟩:=T.out
 refine⟨⟨_,_,P',rfl,t1,by omega,fun k hk=>?_⟩,Only.old B1.out t3 B1.out.size (fun k hk=>?_)⟩
 ·rcases hk with rfl|⟨i,hi⟩
  ·exact Nat.le_refl _
  ·rcases t2 i k hi with e|e
   ·cases e
   ·exact Nat.le_trans B1.out.size e
 ·rcases hk with rfl|⟨i,hi⟩
  ·exact Nat.le_refl _
  ·cases hi
theorem wB{w:World}{b m:Nat}(q id up:Int)(g:Nat)(hc:w.cell? ⟨b,0,none⟩=some (.map (some m)))(hg:w.heap[g]? =some (.cells #[.int .i64 id, .int .i64 up] 3 (0,0))){er:Int}(he:wu true q [id,up]=er):
  Calls Tryz.prog 149 #[.pointer (some ⟨b,0,none⟩), .int .i64 q, .slice (some ⟨g,0,none⟩) 2 2] w fun e w'=>e= .returned (.int .i64 er)∧w=w':=by
 rw[←he]
 refine Jt _ true q [id,up] g 2 w rfl (nH b m w hc) (by decide) (fun i hi=>?_)
 rcases(show i=0∨i=1 by omega)with rfl|rfl<;>(rw[cell_of_row w g _ _ _ _ hg];rfl)
theorem Zg(q id up:Int):wu true q [id,up]=if iw id q=true∧iw up q=true then 0 else 2:=by
 unfold wu
 rw[Ak,Ak,if_pos rfl]
 cases zq q<;>cases h1:oz id<;>cases h2:oz up<;>simp[h1,h2]
set_option maxHeartbeats 2000000 in
theorem ac3{w:World}{b m:Nat}{P:Pt}{L:List Nd}(h:bA w b m P L)(id up q:Int){er:Int}(he:jc L id up q=er):
  Calls Tryz.prog 89 #[.pointer (some ⟨b,0,none⟩), .int .i64 id, .int .i64 up, .int .i64 q] w fun e w'=>e= .returned (.int .i64 er)∧Turned w w' b m P (dx L id up q):=by
 obtain⟨w1,hw1⟩:∃w1,w1=w.alloc (.cells #[.int .i64 id, .int .i64 up] 3):=⟨_,rfl⟩
 have B1:Hid (Below w.heap.size w w1):=Lib.hid (by rw[hw1];exact(Below.refl _ _).alloc (Nat.le_refl _) _)
 have N1:Hid (w1.heap[w.heap.size]? =some (.cells #[.int .i64 id, .int .i64 up] 3 (0,0))):=Lib.hid (by rw[hw1];exact heap_alloc_new w _)
 have H:=Lib.hid h
 have H1:=Lib.hid (h.step B1.out)
 have ft:=Zg q id up
 have stay:∀w',er≠0→Below w.heap.size w w'→Turned w w' b m P (dx L id up q):=fun w' hne hb=>by
  unfold dx
  rw[if_neg (by rw[he];exact hne)]
  exact Turned.stay h hb
 have STAY:=Lib.hid stay
 have HE:=Lib.hid he
 clear h stay he
 by_cases hf:iw id q=true∧iw up q=true
 ·rw [if_pos hf]at ft
  have FT:=Lib.hid ft
  have b1:=(bN.1 hf.1).1
  have b2:=(bN.1 hf.2).1
  have HF:=Lib.hid hf
  clear ft hf
  cases ha:aD up L with
  |none=>
   have e4:er=4:=by rw[←HE.out];unfold jc;rw[if_pos HF.out,if_pos ha]
   subst e4
   have HP:=Lib.hid (H.out.out up ha)
   clear ha
   go_enter Tryz.func89,Tryz.ntmps89
   go_wp2_with fail
   rw[←hw1]
   clear hw1
   refine(wB q id up _ H1.out.cell N1.out FT.out).mono ?_
   rintro e w2 ⟨rfl,rfl⟩
   have c1:=H1.out.cell
   go_wp2_with(refine M4 _ rfl (.tmp 25) (.tmp 26) rfl m P rfl H1.out.map up rfl (by omega) HP.out ?_)
   go_ret
   exact⟨rfl,STAY.out _ (by decide) B1.out⟩
  | some n=>
   obtain⟨p,hp, -⟩:=H.out.inn up n ha
   have HP:=Lib.hid hp
   have hid:=(aj ha).2
   have HA:=Lib.hid ha
   clear ha hp
   cases hi:aD id L with
   |some x=>
    have e5:er=5:=by rw[←HE.out];unfold jc;rw[if_pos HF.out,if_neg (by rw[HA.out];simp),if_pos (by rw[hi];simp)]
    subst e5
    obtain⟨p2,hp2, -⟩:=H.out.inn id x hi
    have HP2:=Lib.hid hp2
    clear hi hp2
    go_enter Tryz.func89,Tryz.ntmps89
    go_wp2_with fail
    rw[←hw1]
    clear hw1
    refine(wB q id up _ H1.out.cell N1.out FT.out).mono ?_
    rintro e w2 ⟨rfl,rfl⟩
    have c1:=H1.out.cell
    go_wp2_with(first|(refine vw _ rfl (.tmp 25) (.tmp 26) rfl m P rfl H1.out.map up rfl (by omega) p HP.out ?_)|(refine Hy _ rfl (.tmp 37) (.tmp 38) rfl m P rfl H1.out.map id rfl (by omega) p2 HP2.out ?_))
    go_ret
    exact⟨rfl,STAY.out _ (by decide) B1.out⟩
   | none=>
    have HP2:=Lib.hid (H.out.out id hi)
    have HI:=Lib.hid hi
    have HQ:Hid (P n.1=some p):=Lib.hid (by rw[hid];exact HP.out)
    have HN:Hid (aD n.1 L=some n):=Lib.hid (by rw[hid];exact HA.out)
    have hlf:aS L up=eZ L n:=by unfold aS;rw[HA.out];rfl
    have Zh:=Lib.hid hlf
    obtain⟨d,hd⟩:∃d,eZ L n=d:=⟨_,rfl⟩
    have HD:=Lib.hid hd
    clear hi hlf hid hd
    by_cases hlt:d<q
    ·have e3:er=3:=by rw[←HE.out];unfold jc;rw[if_pos HF.out,if_neg (by rw[HA.out];simp),if_neg (by rw[HI.out];simp),if_pos (by rw[Zh.out,HD.out];exact hlt)]
     subst e3
     go_enter Tryz.func89,Tryz.ntmps89
     go_wp2_with fail
     rw[←hw1]
     clear hw1
     refine(wB q id up _ H1.out.cell N1.out FT.out).mono ?_
     rintro e w2 ⟨rfl,rfl⟩
     have c1:=H1.out.cell
     go_wp2_with(first|(refine vw _ rfl (.tmp 25) (.tmp 26) rfl m P rfl H1.out.map up rfl (by omega) p HP.out ?_)|(refine wz _ rfl (.tmp 37) (.tmp 38) rfl m P rfl H1.out.map id rfl (by omega) HP2.out ?_)|(go_at_call 120;refine(sD H1.out HQ.out HN.out).mono ?_;rw[HD.out];rintro e w3 ⟨rfl,hb⟩;have B3:=Lib.hid (B1.out.trans (hb.mono B1.out.size));clear hb))
     go_ret
     exact⟨rfl,STAY.out _ (by decide) B3.out⟩
    ·have e0:jc L id up q=0:=by unfold jc;rw[if_pos HF.out,if_neg (by rw[HA.out];simp),if_neg (by rw[HI.out];simp),if_neg (by rw[Zh.out,HD.out];exact hlt)]
     obtain rfl:er=0:=by rw[←HE.out,e0]
     have hg:bR (dx L id up q):=H.out.good.open id up q
     have hol:dx L id up q=jF (id,up,q,0) L:=by unfold dx;rw[if_pos e0]
     rw[hol]at hg ⊢
     have HG:=Lib.hid hg
     clear e0 hg hol
     go_enter Tryz.func89,Tryz.ntmps89
     go_wp2_with fail
     rw[←hw1]
     clear hw1
     refine(wB q id up _ H1.out.cell N1.out FT.out).mono ?_
     rintro e w2 ⟨rfl,rfl⟩
     have c1:=H1.out.cell
     go_wp2_with(first|(refine vw _ rfl (.tmp 25) (.tmp 26) rfl m P rfl H1.out.map up rfl (by omega) p HP.out ?_)|(refine wz _ rfl (.tmp 37) (.tmp 38) rfl m P rfl H1.out.map id rfl (by omega) HP2.out ?_)|(go_at_call 120;refine(sD H1.out HQ.out HN.out).mono ?_;rw[HD.out];rintro e w3 ⟨rfl,hb⟩;have B3:=Lib.hid (B1.out.trans (hb.mono B1.out.size));have H3:=Lib.hid (H.out.step B3.out);clear hb)|(go_at_call 127;refine(OU b m P id up q w3 H3.out.cell H3.out.map b1).mono ?_;rintro e w4 ⟨rfl,h1,h2,h3⟩;have T4:=Lib.hid ((H3.out.add HI.out HG.out h1 h2 h3).ahead B3.out);clear h1 h2 h3))
     go_ret
     exact⟨rfl,T4.out⟩
 ·rw[if_neg hf]at ft
  have FT:=Lib.hid ft
  have e2:er=2:=by rw[←HE.out];unfold jc;rw[if_neg hf]
  subst e2
  clear hf ft
  go_enter Tryz.func89,Tryz.ntmps89
  go_wp2_with fail
  rw[←hw1]
  clear hw1
  refine(wB q id up _ H1.out.cell N1.out FT.out).mono ?_
  rintro e w2 ⟨rfl,rfl⟩
  go_wp2
  go_ret
  exact⟨rfl,STAY.out _ (by decide) B1.out⟩
end Go.Proofs.YtammlljefhakmaaGreatDoor
namespace Go.Proofs.YtammlljefhakmaaGreatDoor
open Go.RowKit Go.Maps
set_option maxRecDepth 100000
theorem Am{L:List Nd}{id d:Int}{x:Nd}(ha:aD id L=some x):aD id (L.map (gW id d))=some (x.1,x.2.1,x.2.2.1,x.2.2.2+d)∧∀i,i≠id→aD i (L.map (gW id d))=aD i L:=by
 refine⟨?_,fun i hi=>?_⟩
 ·rw[bC (iV id d),ha,Option.map_some]
  unfold gW
  rw[if_pos (aj ha).2]
 ·rw[bC (iV id d)]
  cases e:aD i L with
  |none=>rfl
  |some y=>
   rw[Option.map_some]
   unfold gW
   rw[if_neg (by rw[(aj e).2];exact hi)]
theorem Jy{w:World}{p:Nat}{x:Nd}{u:Int}(h:w.heap[p]? =some (wo x)):(w.setCell ⟨p,3,none⟩ (.int .i64 u)).heap[p]? =some (wo (x.1,x.2.1,x.2.2.1,u)):=heap_setCell_same w p 3 _ _ (.int .i64 u) h
theorem ac4{w:World}{p:Nat}{x:Nd}{u:Int}(h:w.heap[p]? =some (wo x)):(w.setCell ⟨p,1,none⟩ (.int .i64 u)).heap[p]? =some (wo (x.1,u,x.2.2)):=heap_setCell_same w p 1 _ _ (.int .i64 u) h
set_option maxHeartbeats 2000000 in
theorem U6{w:World}{b m:Nat}{P:Pt}{L:List Nd}(h:bA w b m P L)(id n:Int){er:Int}(he:aX L id n=er):
  Calls Tryz.prog 132 #[.pointer (some ⟨b,0,none⟩), .int .i64 id, .int .i64 n] w fun e w'=>e= .returned (.int .i64 er)∧Turned w w' b m P (aF L id n):=by
 have H:=Lib.hid h
 have stay:∀w',er≠0→Below w.heap.size w w'→Turned w w' b m P (aF L id n):=fun w' hne hb=>by
  unfold aF
  rw[if_neg (by rw[he];exact hne)]
  exact Turned.stay h hb
 have STAY:=Lib.hid stay
 clear h stay
 cases ha:aD id L with
 | none=>
  have hne:er≠0:=fun e=>by
   rw[e]at he
   obtain⟨_,⟨x,hx⟩,_⟩:=fK.1 he
   rw[ha]at hx
   cases hx
  have hof:l5 L id n=er:=by
   rw[←he]
   unfold l5 aX
   rw[if_pos ha,if_pos ha]
  have OF:=Lib.hid (oU H.out id n hof (show Eb P er id=none by unfold Eb;rw[if_neg hne]))
  have hne2:(er !=0)=true:=by simpa using hne
  have HNE:=Lib.hid hne
  clear he ha hof hne
  go_enter Tryz.func132,Tryz.ntmps132
  go_wp2_with fail
  refine OF.out.mono ?_
  rintro e w1 ⟨rfl,hb⟩
  have B1:=Lib.hid hb
  clear hb
  go_wp2
  go_ret
  exact⟨rfl,STAY.out _ HNE.out B1.out⟩
 | some x=>
  obtain⟨p,hp, -⟩:=H.out.inn id x ha
  have HP:=Lib.hid hp
  have HA:=Lib.hid ha
  cases hf:iw id n with
  |false=>
   have e2:er=2:=by rw[←he];unfold aX;rw[if_neg (by rw[hf];decide)]
   subst e2
   have OF:=Lib.hid (oU H.out id n (show l5 L id n=2 by unfold l5;rw[if_neg (by rw[hf];decide)]) (show Eb P 2 id=none from rfl))
   clear he ha hp hf
   go_enter Tryz.func132,Tryz.ntmps132
   go_wp2_with fail
   refine OF.out.mono ?_
   rintro e w1 ⟨rfl,hb⟩
   have B1:=Lib.hid hb
   clear hb
   go_wp2
   go_ret
   exact⟨rfl,STAY.out _ (by decide) B1.out⟩
  | true=>
   have OF:=Lib.hid (oU H.out id n (show l5 L id n=0 by unfold l5;rw[if_pos hf,if_neg (by rw[ha];simp)]) (show Eb P 0 id=some p by unfold Eb;rw[if_pos rfl];exact hp))
   have hid:=(aj ha).2
   have HQ:Hid (P x.1=some p):=Lib.hid (by rw[hid];exact hp)
   have HN:Hid (aD x.1 L=some x):=Lib.hid (by rw[hid];exact ha)
   have hlf:aS L id=eZ L x:=by unfold aS;rw[ha];rfl
   have HF:=Lib.hid hf
   have hfn:=(bN.1 hf).2
   obtain⟨d,hd⟩:∃d,eZ L x=d:=⟨_,rfl⟩
   have HD:=Lib.hid hd
   rw[hd]at hlf
   have Zh:=Lib.hid hlf
   have HE:=Lib.hid he
   have hok:=H.out.good.ok x (aj ha).1
   clear he ha hp hid hf hd hlf
   by_cases hlt:d<n
   ·have e3:er=3:=by rw[←HE.out];unfold aX;rw[if_pos HF.out,if_neg (by rw[HA.out];simp),if_pos (by rw[Zh.out];exact hlt)]
    subst e3
    go_enter Tryz.func132,Tryz.ntmps132
    go_wp2_with fail
    refine OF.out.mono ?_
    rintro e w1 ⟨rfl,hb⟩
    have B1:=Lib.hid hb
    have H1:=Lib.hid (H.out.step hb)
    clear hb
    unfold Aa
    go_wp2_with(go_at_call 120;refine(sD H1.out HQ.out HN.out).mono ?_;rw[HD.out];rintro e w3 ⟨rfl,hb⟩;have B3:=Lib.hid (B1.out.trans (hb.mono B1.out.size));clear hb)
    go_ret
    exact⟨rfl,STAY.out _ (by decide) B3.out⟩
   ·have e0:aX L id n=0:=by unfold aX;rw[if_pos HF.out,if_neg (by rw[HA.out];simp),if_neg (by rw[Zh.out];exact hlt)]
    obtain rfl:er=0:=by rw[←HE.out,e0]
    have hg:=H.out.good.nE id n
    have hcl:aF L id n=L.map (gW id n):=by unfold aF;rw[if_pos e0]
    rw[hcl]at hg ⊢
    have HG:=Lib.hid hg
    have hw:IntKind.i64.wrap (x.2.2.2+n)=x.2.2.2+n:=IntWalk.i64_in _ (by omega)
    clear e0 hg hcl
    go_enter Tryz.func132,Tryz.ntmps132
    go_wp2_with fail
    refine OF.out.mono ?_
    rintro e w1 ⟨rfl,hb⟩
    have B1:=Lib.hid hb
    have H1:=Lib.hid (H.out.step hb)
    clear hb
    unfold Aa
    go_wp2_with(go_at_call 120;refine(sD H1.out HQ.out HN.out).mono ?_;rw[HD.out];rintro e w3 ⟨rfl,hb⟩;have B3:=Lib.hid (B1.out.trans (hb.mono B1.out.size));have H3:=Lib.hid (H.out.step B3.out);clear hb;obtain⟨x',hx',hpn⟩:=H3.out.node HP.out;obtain rfl:x=x':=(by rw[HA.out]at hx';exact Option.some.inj hx');have HPN:=Lib.hid hpn;obtain⟨-, -, -,a3,af⟩:=dU hpn;have f3:=af 3;clear hx' hpn af)
    go_ret
    exact⟨rfl,Turned.ahead B3.out (Turned.node H3.out HP.out (Jy HPN.out) (grownBy_setCell _ _ _ _) (Am HA.out).1 (Am HA.out).2 HG.out)⟩
set_option maxHeartbeats 2000000 in
theorem U7{w:World}{b m:Nat}{P:Pt}{L:List Nd}(h:bA w b m P L)(id n:Int){er:Int}(he:fH L id n=er):
  Calls Tryz.prog 110 #[.pointer (some ⟨b,0,none⟩), .int .i64 id, .int .i64 n] w fun e w'=>e= .returned (.int .i64 er)∧Turned w w' b m P (bI L id n):=by
 have H:=Lib.hid h
 have stay:∀w',er≠0→Below w.heap.size w w'→Turned w w' b m P (bI L id n):=fun w' hne hb=>by
  unfold bI
  rw[if_neg (by rw[he];exact hne)]
  exact Turned.stay h hb
 have STAY:=Lib.hid stay
 clear h stay
 cases ha:aD id L with
 | none=>
  have hne:er≠0:=fun e=>by
   rw[e]at he
   obtain⟨_,x,hx,_⟩:=jk.1 he
   rw[ha]at hx
   cases hx
  have hof:l5 L id n=er:=by
   rw[←he]
   unfold l5 fH
   rw[if_pos ha,ha]
  have OF:=Lib.hid (oU H.out id n hof (show Eb P er id=none by unfold Eb;rw[if_neg hne]))
  have hne2:(er !=0)=true:=by simpa using hne
  have HNE:=Lib.hid hne
  clear he ha hof hne
  go_enter Tryz.func110,Tryz.ntmps110
  go_wp2_with fail
  refine OF.out.mono ?_
  rintro e w1 ⟨rfl,hb⟩
  have B1:=Lib.hid hb
  clear hb
  go_wp2
  go_ret
  exact⟨rfl,STAY.out _ HNE.out B1.out⟩
 | some x=>
  obtain⟨p,hp, -⟩:=H.out.inn id x ha
  have HP:=Lib.hid hp
  have HA:=Lib.hid ha
  cases hf:iw id n with
  |false=>
   have e2:er=2:=by rw[←he];unfold fH;rw[if_neg (by rw[hf];decide)]
   subst e2
   have OF:=Lib.hid (oU H.out id n (show l5 L id n=2 by unfold l5;rw[if_neg (by rw[hf];decide)]) (show Eb P 2 id=none from rfl))
   clear he ha hp hf
   go_enter Tryz.func110,Tryz.ntmps110
   go_wp2_with fail
   refine OF.out.mono ?_
   rintro e w1 ⟨rfl,hb⟩
   have B1:=Lib.hid hb
   clear hb
   go_wp2
   go_ret
   exact⟨rfl,STAY.out _ (by decide) B1.out⟩
  | true=>
   have OF:=Lib.hid (oU H.out id n (show l5 L id n=0 by unfold l5;rw[if_pos hf,if_neg (by rw[ha];simp)]) (show Eb P 0 id=some p by unfold Eb;rw[if_pos rfl];exact hp))
   have HF:=Lib.hid hf
   have hfn:=(bN.1 hf).2
   have HE:=Lib.hid he
   have hok:=H.out.good.ok x (aj ha).1
   clear he ha hp hf
   by_cases hlt:x.2.2.2<n
   ·have e3:er=9:=by rw[←HE.out];unfold fH;rw[if_pos HF.out,HA.out];simp[hlt]
    subst e3
    go_enter Tryz.func110,Tryz.ntmps110
    go_wp2_with fail
    refine OF.out.mono ?_
    rintro e w1 ⟨rfl,hb⟩
    have B1:=Lib.hid hb
    have H1:=Lib.hid (H.out.step hb)
    obtain⟨x',hx',hpn⟩:=H1.out.node HP.out
    obtain rfl:x=x':=by rw[HA.out]at hx';exact Option.some.inj hx'
    obtain⟨-, -, -,a3, -⟩:=dU hpn
    clear hb hx' hpn
    unfold Aa
    go_wp2
    go_ret
    exact⟨rfl,STAY.out _ (by decide) B1.out⟩
   ·have e0:fH L id n=0:=by unfold fH;rw[if_pos HF.out,HA.out];simp;omega
    obtain rfl:er=0:=by rw[←HE.out,e0]
    have hg:=H.out.good.oQ id n
    have hcl:bI L id n=L.map (gW id (-n)):=by unfold bI;rw[if_pos e0]
    rw[hcl]at hg ⊢
    have HG:=Lib.hid hg
    have hw:IntKind.i64.wrap (x.2.2.2-n)=x.2.2.2-n:=IntWalk.i64_in _ (by omega)
    clear e0 hg hcl
    go_enter Tryz.func110,Tryz.ntmps110
    go_wp2_with fail
    refine OF.out.mono ?_
    rintro e w1 ⟨rfl,hb⟩
    have B1:=Lib.hid hb
    have H1:=Lib.hid (H.out.step hb)
    obtain⟨x',hx',hpn⟩:=H1.out.node HP.out
    obtain rfl:x=x':=by rw[HA.out]at hx';exact Option.some.inj hx'
    obtain⟨-, -, -,a3,af⟩:=dU hpn
    have f3:=af 3
    have HPN:=Lib.hid hpn
    clear hb hx' hpn af
    unfold Aa
    go_wp2
    go_ret
    exact⟨rfl,Turned.ahead B1.out (Turned.node H1.out HP.out (Jy HPN.out) (grownBy_setCell _ _ _ _) (Am HA.out).1 (Am HA.out).2 HG.out)⟩
end Go.Proofs.YtammlljefhakmaaGreatDoor
namespace Go.Proofs.YtammlljefhakmaaGreatDoor
open Go.RowKit Go.Maps
set_option maxRecDepth 100000
theorem Ec(w:World){ops:Array Oper}{o:Oper}{a:Act}{K:Act→World→Prop}{Q:Exit→Act→World→Prop}{E:Prop}(hgd:o.guard=none)(m x:Operand)(hop:o.op=Op.call { callee:=Callee.builtin Builtin.delete,args:=#[m,x],argTypes:=#[188,3] })(b:Nat)(P:Pt)(hm:a.eval m= .map (some b))(h:aT w b P)(y:Int)(hx:a.eval x= .int .i64 y)(hy:1≤y∧y≤8)
  (hK:∀w',aT w' b (gX P y none)→w.grownBy w' (some b)→K (a.put o.dst (.tuple #[])) w'):
  if Region.wanted o (yielded ops a.tmps)=true then Oper.wp Tryz.prog o a w K Q else E:=by
 have hw:Region.wanted o (yielded ops a.tmps)=true:=by simp[Region.wanted,hgd]
 rw[if_pos hw]
 obtain⟨D,k,hown,hk,hr⟩:=h
 obtain⟨w',hrun,r1,r2⟩:=hown.drop qA Tryz.underlying188 (gJ y (by omega)) o.type
 unfold Oper.wp execOp
 simp only[hop,resolve,invoke,builtin,Sem.run_bind,Sem.run_pure,Result.andThen_ok,List.map_toArray,List.map_cons,List.map_nil,hm,hx,hrun]
 exact hK w' ⟨_,k,r1,hk,hr.del y⟩ r2.grown
theorem Ed(args:Array Value)(W:World):(callFunc 113 args).run Tryz.prog W= .ok (.enter 113 args) W:=enters Tryz.func113 rfl rfl args W
theorem M7(p bi bn:Nat)(x:Nd)(id:Int)(w:World)(hx:w.heap[p]? =some (wo x))(hbi:w.heap[bi]? =some (.cells #[.int .i64 id] 3 (0,0)))(hne:x.2.1≠id):
  Calls Tryz.prog 113 #[.pointer (some ⟨p,0,none⟩), .pointer (some ⟨bi,0,none⟩), .pointer (some ⟨bn,0,none⟩)] w fun e w'=>e= .returned (.tuple #[])∧∃k,w'=w.drewN k:=by
 obtain⟨a0,a1,a2,a3, -⟩:=dU hx
 obtain⟨c0, -⟩:=sw hbi
 have he:(x.2.1==id)=false:=by simpa using hne
 clear hx hbi hne
 generalize x.2.1=y at*
 go_enter Tryz.func113,Tryz.ntmps113
 go_wp2
 go_quiet (fail)
 go_wp2
 go_end0
 exact⟨rfl,_,rfl⟩
theorem Jz(p bi bn q:Nat)(x n:Nd)(id:Int)(w:World)(hx:w.heap[p]? =some (wo x))(hq:w.heap[q]? =some (wo n))(hbi:w.heap[bi]? =some (.cells #[.int .i64 id] 3 (0,0)))(hbn:w.heap[bn]? =some (.cells #[.pointer (some ⟨q,0,none⟩)] 185 (0,0)))(hne:x.2.1=id):
  Calls Tryz.prog 113 #[.pointer (some ⟨p,0,none⟩), .pointer (some ⟨bi,0,none⟩), .pointer (some ⟨bn,0,none⟩)] w fun e w'=>e= .returned (.tuple #[])∧w'.heap[p]? =some (wo (x.1,n.2.1,x.2.2))∧w.grownBy w' (some p):=by
 obtain⟨a0,a1,a2,a3,af⟩:=dU hx
 have f1:=af 1
 obtain⟨b0,b1,b2,b3, -⟩:=dU hq
 obtain⟨c0, -⟩:=sw hbi
 obtain⟨d0, -⟩:=sw hbn
 have he:(x.2.1==id)=true:=by simpa using hne
 have HX:=Lib.hid hx
 clear hx hq hbi hbn hne af
 generalize x.2.1=y at*
 generalize n.2.1=z at*
 go_enter Tryz.func113,Tryz.ntmps113
 go_wp2
 go_quiet (fail)
 obtain⟨W2,hW2⟩:∃W2,W2=w.drewN nq:=⟨_,rfl⟩
 have g1:W2.cell? ⟨p,1,none⟩=some (.int .i64 y):=by rw[hW2];exact a1
 have g2:W2.frozen? ⟨p,1,none⟩=false:=by rw[hW2];exact f1
 have g3:W2.cell? ⟨bn,0,none⟩=some (.pointer (some ⟨q,0,none⟩)):=by rw[hW2];exact d0
 have g4:W2.cell? ⟨q,1,none⟩=some (.int .i64 z):=by rw[hW2];exact b1
 have G5:Hid (W2.heap[p]? =some (wo x)∧w.grownBy W2 (some p)):=Lib.hid (by rw[hW2];exact⟨HX.out,aP (below_drewN (Below.refl _ _) _) _⟩)
 rw[←hW2]
 clear hW2 a0 a1 a2 a3 b0 b1 b2 b3 c0 d0 f1
 go_wp2
 go_end0
 exact⟨rfl,ac4 G5.out.1,grownBy_trans G5.out.2 (grownBy_setCell _ _ _ _)⟩
def Ee(id up j:Int)(n:Nd):Nd:=if n.1<j then fP id up n else n
theorem wC(id up j:Int)(n:Nd):(Ee id up j n).1=n.1:=by unfold Ee;split;exact kC _ _ _;rfl
def uU(L:List Nd)(id up j:Int):List Nd:=(fT id L).map (Ee id up j)
theorem EK{L:List Nd}(h:bR L)(id j:Int):bR (uU L id (MS L id) j):=by
 refine⟨sj (wC _ _ _) (um h.up),fun n hn=>?_⟩
 obtain⟨m,hm,rfl⟩:=List.mem_map.1 hn
 have:=h.ok m (iF.1 hm).1
 have hu:=Ba h id
 unfold Ee fP
 split
 ·split
  ·exact⟨this.1,hu,this.2.2⟩
  ·exact this
 ·exact this
theorem Hz{L:List Nd}(id up i j:Int)(hi:i≠j):aD i (uU L id up (j+1))=aD i (uU L id up j):=by
 unfold uU
 rw[bC (wC _ _ _),bC (wC _ _ _)]
 cases e:aD i (fT id L)with
 |none=>rfl
 |some n=>
  rw[Option.map_some,Option.map_some]
  have:=(aj e).2
  unfold Ee
  by_cases h:n.1<j
  ·rw[if_pos (by omega),if_pos h]
  ·rw[if_neg (by omega),if_neg h]
theorem H6{L:List Nd}(id up j:Int){x:Nd}(h:aD j (uU L id up j)=some x):aD j (uU L id up (j+1))=some (fP id up x):=by
 unfold uU at h ⊢
 rw[bC (wC _ _ _)]at h ⊢
 cases e:aD j (fT id L)with
 |none=>rw[e]at h;cases h
 |some n=>
  rw[e,Option.map_some]at h
  have hn:=(aj e).2
  unfold Ee at h
  rw[if_neg (by omega)]at h
  cases h
  rw[Option.map_some]
  unfold Ee
  rw[if_pos (by omega)]
theorem U8{L:List Nd}(h:bR L)(id up:Int):uU L id up 1=fT id L:=by
 unfold uU
 conv=>rhs;rw[←List.map_id (fT id L)]
 apply List.map_congr_left
 intro n hn
 have:=(h.ok n (iF.1 hn).1).1
 unfold Ee
 rw[if_neg (by omega)];rfl
theorem Rm{L:List Nd}(h:bR L)(id up:Int):uU L id up 9=(fT id L).map (fP id up):=by
 unfold uU
 apply List.map_congr_left
 intro n hn
 have:=(h.ok n (iF.1 hn).1).1
 unfold Ee
 rw[if_pos (by omega)]
theorem Zi{L:List Nd}(id up j:Int)(h:aD j (uU L id up j)=none):uU L id up (j+1)=uU L id up j:=by
 unfold uU at h ⊢
 rw[bC (wC _ _ _),Option.map_eq_none_iff,dZ]at h
 apply List.map_congr_left
 intro n hn
 have:=h n hn
 unfold Ee
 by_cases c:n.1<j
 ·rw[if_pos (by omega),if_pos c]
 ·rw[if_neg (by omega),if_neg c]
structure OX(w:World)(b m:Nat)(P:Pt)(L:List Nd)(id:Int)(q bn:Nat)(n:Nd)(j:Int)(V:World):Prop where
 st:bA V b m (gX P id none) (uU L id (MS L id) j)
 only:Only w V (bB m P)
 gone:V.heap[q]? =some (wo n)
 box:V.heap[w.heap.size]? =some (.cells #[.int .i64 id] 3 (0,0))
 node:V.heap[bn]? =some (.cells #[.pointer (some ⟨q,0,none⟩)] 185 (0,0))
theorem Rn{w:World}{b m:Nat}{P:Pt}{L:List Nd}{id:Int}{q bn:Nat}{n:Nd}{j:Int}{V:World}(h0:bA w b m P L)(h:OX w b m P L id q bn n j V)(hq:P id=some q)(hn:n.2.1=MS L id){p:Nat}(hp:gX P id none j=some p):
  Calls Tryz.prog 113 #[.pointer (some ⟨p,0,none⟩), .pointer (some ⟨w.heap.size,0,none⟩), .pointer (some ⟨bn,0,none⟩)] V fun e w'=>e= .returned (.tuple #[])∧OX w b m P L id q bn n (j+1) w':=by
 obtain⟨x,hx,hpx⟩:=h.st.node hp
 have hj:j≠id:=fun e=>by rw[e,fU]at hp;cases hp
 have hp0:P j=some p:=by rw[bZ _ _ _ hj]at hp;exact hp
 have hpq:p≠q:=fun e=>hj (h0.inj hp0 (by rw[hq,e]))
 by_cases hu:x.2.1=id
 ·refine(Jz p _ bn q x n id V hpx h.gone h.box h.node hu).mono ?_
  rintro e w' ⟨rfl,h1,h2⟩
  have keep:∀(k:Nat) (o:Obj),V.heap[k]? =some o→k≠p→w'.heap[k]? =some o:=fun k o hk hne=>(h2.block k (lt_of_block hk) (fun e=>hne (Option.some.inj e))).trans hk
  have hpb:∀(k:Nat) (cs:Array Value) (t:TypeId),V.heap[k]? =some (.cells cs t (0,0))→t≠155→k≠p:=fun k cs t hk ht e=>by
   rw[e,hpx]at hk
   exact ht (by injection hk with h;injection h with _ h;exact h.symm)
  have hre:fP id (MS L id) x=(x.1,n.2.1,x.2.2):=by unfold fP;rw[if_pos hu,hn]
  refine⟨rfl,h.st.turn hp h1 h2 (by rw[H6 _ _ _ hx,hre]) (fun i hi=>Hz _ _ _ _ hi) (EK h0.good _ _),h.only.trans (Only.grown h2 (Or.inr ⟨j,hp0⟩)),keep _ _ h.gone (fun e=>hpq e.symm),keep _ _ h.box (hpb _ _ _ h.box (by decide)),keep _ _ h.node (hpb _ _ _ h.node (by decide))⟩
 ·refine(M7 p _ bn x id V hpx h.box hu).mono ?_
  rintro e w' ⟨rfl,k,rfl⟩
  have hb:Below V.heap.size V (V.drewN k):=below_drewN (Below.refl _ _) k
  have hre:fP id (MS L id) x=x:=by unfold fP;rw[if_neg hu]
  have hst:=h.st.step hb
  refine⟨rfl,⟨hst.box,hst.map,fun i e=>?_,fun i y e=>?_,EK h0.good _ _⟩,h.only.trans (Only.below hb),h.gone,h.box,h.node⟩
  ·by_cases hi:i=j
   ·subst hi;rw[H6 _ _ _ hx]at e;cases e
   ·rw[Hz _ _ _ _ hi]at e
    exact hst.out i e
  ·by_cases hi:i=j
   ·subst hi
    rw[H6 _ _ _ hx,hre]at e
    cases e
    exact⟨p,hp,hpx⟩
   ·rw[Hz _ _ _ _ hi]at e
    exact hst.inn i y e
theorem bA.drop{w w':World}{b m:Nat}{P:Pt}{L:List Nd}(h:bA w b m P L)(id:Int)(h1:aT w' m (gX P id none))(h3:w.grownBy w' (some m)):bA w' b m (gX P id none) (fT id L):=by
 refine⟨(h3.block _ (lt_of_block h.box) (fun e=>h.vv (Or.inl (Option.some.inj e)))).trans h.box,h1,fun i e=>?_,fun i n e=>?_,um h.good.up,fun n hn=>h.good.ok n (iF.1 hn).1⟩
 ·rw[iG]at e
  by_cases hi:i=id
  ·rw[hi,fU]
  ·rw[if_neg hi]at e
   rw[bZ _ _ _ hi]
   exact h.out i e
 ·rw[iG]at e
  by_cases hi:i=id
  ·rw[if_pos hi]at e;cases e
  ·rw[if_neg hi]at e
   obtain⟨p,hp,hpn⟩:=h.inn i n e
   exact⟨p,by rw[bZ _ _ _ hi];exact hp,(h3.block _ (lt_of_block hpn) (fun e=>h.kF i (by rw[hp,Option.some.inj e]))).trans hpn⟩
set_option maxHeartbeats 2000000 in
theorem Zj{w:World}{b m:Nat}{P:Pt}{L:List Nd}(h:bA w b m P L)(id:Int){er:Int}(he:iy L id=er):
  Calls Tryz.prog 54 #[.pointer (some ⟨b,0,none⟩), .int .i64 id] w fun e w'=>e= .returned (.int .i64 er)∧Turned w w' b m P (fq L id):=by
 have pE:∀(fn:Fn) (first cap:Array Value) (w:World),(Instr.makeFunc fn first cap).run Tryz.prog w= .ok (.func fn first cap) w:=fun _ _ _ _=>rfl
 have H:=Lib.hid h
 have stay:∀w',er≠0→Below w.heap.size w w'→Turned w w' b m P (fq L id):=fun w' hne hb=>by
  unfold fq
  rw[if_neg (by rw[he];exact hne)]
  exact Turned.stay h hb
 have STAY:=Lib.hid stay
 obtain⟨w1,hw1⟩:∃w1,w1=w.alloc (.cells #[.int .i64 id] 3):=⟨_,rfl⟩
 have B1:Hid (Below w.heap.size w w1):=Lib.hid (by rw[hw1];exact(Below.refl _ _).alloc (Nat.le_refl _) _)
 have N1:Hid (w1.heap[w.heap.size]? =some (.cells #[.int .i64 id] 3 (0,0))):=Lib.hid (by rw[hw1];exact heap_alloc_new w _)
 have H1:=Lib.hid (h.step B1.out)
 clear h stay
 cases ha:aD id L with
 | none=>
  have hne:er≠0:=fun e=>by
   rw[e]at he
   obtain⟨_,_,x,hx,_⟩:=kD.1 he
   rw[ha]at hx
   cases hx
  have hof:l5 L id 0=er:=by
   rw[←he]
   unfold l5 iy
   rw[if_pos ha,ha]
  have OF:=Lib.hid (oU H1.out id 0 hof (show Eb P er id=none by unfold Eb;rw[if_neg hne]))
  have hne2:(er !=0)=true:=by simpa using hne
  have HNE:=Lib.hid hne
  clear he ha hof hne
  go_enter Tryz.func54,Tryz.ntmps54
  go_wp2_with fail
  rw[←hw1]
  clear hw1
  refine OF.out.mono ?_
  rintro e w2 ⟨rfl,hb⟩
  have B2:=Lib.hid (B1.out.trans (hb.mono B1.out.size))
  clear hb
  unfold Aa
  go_wp2
  go_ret
  exact⟨rfl,STAY.out _ HNE.out (B2.out.alloc B2.out.size _)⟩
 | some x=>
  obtain⟨q,hq, -⟩:=H.out.inn id x ha
  have HQ:=Lib.hid hq
  have HA:=Lib.hid ha
  have OF:=Lib.hid (oU H1.out id 0 (Ju (H.out.good.fits ha) ha) (show Eb P 0 id=some q by unfold Eb;rw[if_pos rfl];exact hq))
  have HE:=Lib.hid he
  have HF:=Lib.hid (H.out.good.fits ha)
  have hib:=(bN.1 HF.out).1
  clear he ha hq
  by_cases hs:id=1∨x.2.2.2≠0
  ·have e9:er=9:=by rw[←HE.out];unfold iy;rw[if_pos HF.out,HA.out];simp only;rw[if_pos hs]
   subst e9
   by_cases h1:id=1
   ·subst h1
    go_enter Tryz.func54,Tryz.ntmps54
    go_wp2_with fail
    rw[←hw1]
    clear hw1
    refine OF.out.mono ?_
    rintro e w2 ⟨rfl,hb⟩
    have B2:=Lib.hid (B1.out.trans (hb.mono B1.out.size))
    have N2:=below_block hb N1.out
    obtain⟨w3,hw3⟩:∃w3,w3=w2.alloc (.cells #[.pointer (some ⟨q,0,none⟩)] 185):=⟨_,rfl⟩
    have hb3:Below w2.heap.size w2 w3:=by rw[hw3];exact(Below.refl _ _).alloc (Nat.le_refl _) _
    have c0:=cell_of_one (below_block hb3 N2)
    have B3:=Lib.hid (B2.out.trans (hb3.mono B2.out.size))
    rw[hw3]at c0
    clear hb N2 hb3
    unfold Aa
    go_wp2
    go_ret
    exact⟨rfl,STAY.out _ (by decide) (by have:=B3.out;rw[hw3]at this;exact this)⟩
   ·have hu:x.2.2.2≠0:=hs.resolve_left h1
    have d1:(id==1)=false:=by simpa using h1
    have d2:(x.2.2.2 !=0)=true:=by simpa using hu
    go_enter Tryz.func54,Tryz.ntmps54
    go_wp2_with fail
    rw[←hw1]
    clear hw1
    refine OF.out.mono ?_
    rintro e w2 ⟨rfl,hb⟩
    have B2:=Lib.hid (B1.out.trans (hb.mono B1.out.size))
    have N2:=below_block hb N1.out
    obtain⟨w3,hw3⟩:∃w3,w3=w2.alloc (.cells #[.pointer (some ⟨q,0,none⟩)] 185):=⟨_,rfl⟩
    have hb3:Below w2.heap.size w2 w3:=by rw[hw3];exact(Below.refl _ _).alloc (Nat.le_refl _) _
    have c0:=cell_of_one (below_block hb3 N2)
    have B3:=Lib.hid (B2.out.trans (hb3.mono B2.out.size))
    have c1:w3.cell? ⟨q,3,none⟩=some (.int .i64 x.2.2.2):=by
     obtain⟨x',hx',hqx⟩:=(H.out.step B3.out).node HQ.out
     obtain rfl:x=x':=by rw[HA.out]at hx';exact Option.some.inj hx'
     exact(dU hqx).2.2.2.1
    rw[hw3]at c0 c1
    clear hb N2 hb3 hs hu
    unfold Aa
    go_wp2
    go_ret
    exact⟨rfl,STAY.out _ (by decide) (by have:=B3.out;rw[hw3]at this;exact this)⟩
  ·have h1:id≠1:=fun e=>hs (Or.inl e)
   have hu:x.2.2.2=0:=Classical.not_not.1 fun e=>hs (Or.inr e)
   have e0:iy L id=0:=kD.2 ⟨HF.out,h1,x,HA.out,hu⟩
   obtain rfl:er=0:=by rw[←HE.out,e0]
   have hcl:fq L id=(fT id L).map (fP id (MS L id)):=by unfold fq;rw[if_pos e0]
   rw[hcl,←Rm H.out.good]
   have HUP:Hid (x.2.1=MS L id):=Lib.hid (by unfold MS;rw[HA.out];rfl)
   have d1:(id==1)=false:=by simpa using h1
   have d2:(x.2.2.2 !=0)=false:=by simp[hu]
   clear e0 hcl hs hu
   go_enter Tryz.func54,Tryz.ntmps54
   go_wp2_with fail
   rw[←hw1]
   clear hw1
   refine OF.out.mono ?_
   rintro e w2 ⟨rfl,hb⟩
   have B2:=Lib.hid (B1.out.trans (hb.mono B1.out.size))
   have N2:=Lib.hid (below_block hb N1.out)
   obtain⟨w3,hw3⟩:∃w3,w3=w2.alloc (.cells #[.pointer (some ⟨q,0,none⟩)] 185):=⟨_,rfl⟩
   have B23:Hid (Below w2.heap.size w2 w3):=Lib.hid (by rw[hw3];exact(Below.refl _ _).alloc (Nat.le_refl _) _)
   have M3:Hid (w3.heap[w2.heap.size]? =some (.cells #[.pointer (some ⟨q,0,none⟩)] 185 (0,0))):=Lib.hid (by rw[hw3];exact heap_alloc_new w2 _)
   have N3:=Lib.hid (below_block B23.out N2.out)
   have B3:=Lib.hid (B2.out.trans (B23.out.mono B2.out.size))
   have H3:=Lib.hid (H.out.step B3.out)
   obtain⟨x',hx',hqx⟩:=H3.out.node HQ.out
   obtain rfl:x=x':=by rw[HA.out]at hx';exact Option.some.inj hx'
   have Q3:=Lib.hid hqx
   have c0:=cell_of_one N3.out
   have c1:=(dU hqx).2.2.2.1
   have c2:=H3.out.cell
   rw[hw3]at c0 c1 c2
   have E3:=Lib.hid hw3
   clear hb hx' hqx
   unfold Aa
   go_wp2_with fail
   rw[←hw3]at c0 c1 c2 ⊢
   clear hw3
   have P3:Hid (aT w3.drew m P):=Lib.hid H3.out.map
   go_region_law (refine Ec _ (by rfl) _ _ (by rfl) m P (by rfl) P3.out id (by rfl) hib ?_;intro w4 hp4 hg4;have P4:=Lib.hid hp4;have G4:=Lib.hid hg4;clear hp4 hg4)
   all_goals
    have hd:Below w3.heap.size w3 w3.drew:=(Below.refl _ _).drew
    have keep:∀(k:Nat) (cs:Array Value) (t:TypeId),w3.heap[k]? =some (.cells cs t (0,0))→w4.heap[k]? =some (.cells cs t (0,0)):=fun k cs t hk=>
     (G4.out.block k (lt_of_block (below_block hd hk)) (fun e=>by
      obtain⟨es,ck,hm⟩:=H3.out.map.isMap
      rw[Option.some.inj e,hm]at hk
      cases hk)).trans hk
    have J4:Hid (OX w b m P L id q w2.heap.size x 1 w4):=Lib.hid ⟨by rw[U8 H.out.good];exact(H3.out.step hd).drop id P4.out G4.out,(Only.below (B3.out.trans (hd.mono B3.out.size))).trans (Only.grown G4.out (Or.inl rfl)),keep _ _ _ Q3.out,keep _ _ _ N3.out,keep _ _ _ M3.out⟩
    clear keep hd
    go_wp2_with fail
    refine(Ht 113 #[.pointer (some ⟨w.heap.size,0,none⟩), .pointer (some ⟨w2.heap.size,0,none⟩)] Ed b m (gX P id none) (OX w b m P L id q w2.heap.size x) _ (fun j V hV=>⟨hV.st.cell,hV.st.map⟩) (fun j p V _ _ hp hV=>Rn H.out hV HQ.out HUP.out hp) (fun j V _ _ hp hV=>?_) J4.out).mono ?_
    ·have hno:=Zi id (MS L id) j (U5 hV.st hp)
     exact⟨by rw[hno];exact hV.st,hV.only,hV.gone,hV.box,hV.node⟩
    rintro e w5 ⟨rfl,hJ⟩
    have J5:=Lib.hid hJ
    clear hJ
    go_wp2
    go_ret
    refine⟨rfl,⟨_,J5.out.st,fun i p e=>?_⟩,J5.out.only⟩
    by_cases hi:i=id
    ·rw[hi,fU]at e;cases e
    ·rw[bZ _ _ _ hi]at e
     exact Or.inl e
end Go.Proofs.YtammlljefhakmaaGreatDoor
