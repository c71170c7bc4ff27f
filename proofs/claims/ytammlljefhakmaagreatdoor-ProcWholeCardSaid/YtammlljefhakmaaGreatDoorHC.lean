/- Helps of the proof. No condition. -/
import Derived.Test.YtammlljefhakmaaGreatDoorHA
namespace Go.Proofs.YtammlljefhakmaaGreatDoor
open Go.RowKit Go.Maps
set_option maxRecDepth 100000
end Go.Proofs.YtammlljefhakmaaGreatDoor
namespace Go.Proofs.YtammlljefhakmaaGreatDoor
open Go.RowKit Go.Maps
set_option maxRecDepth 100000
end Go.Proofs.YtammlljefhakmaaGreatDoor
namespace Go.Proofs.YtammlljefhakmaaGreatDoor
open Go.RowKit Go.Maps
set_option maxRecDepth 100000
end Go.Proofs.YtammlljefhakmaaGreatDoor
namespace Go.Proofs.YtammlljefhakmaaGreatDoor
open Go.RowKit Go.Maps
set_option maxRecDepth 100000
end Go.Proofs.YtammlljefhakmaaGreatDoor
namespace Go.Proofs.YtammlljefhakmaaGreatDoor
open Go.RowKit Go.Maps
set_option maxRecDepth 100000
end Go.Proofs.YtammlljefhakmaaGreatDoor
namespace Go.Proofs.YtammlljefhakmaaGreatDoor
open Go.RowKit Go.Maps
set_option maxRecDepth 100000
end Go.Proofs.YtammlljefhakmaaGreatDoor
namespace Go.Proofs.YtammlljefhakmaaGreatDoor
open Go.RowKit Go.Maps
set_option maxRecDepth 100000
structure OB(W w:World)(b:Nat)(F:Nat→Prop)(L:List Nd):Prop where
 ex:∃m P,bI w b m P L∧∀k,bB m P k→W.heap.size≤k∧¬F k
 below:Below W.heap.size W w
 nb:W.heap.size≤b
 flt:∀k,F k→k<w.heap.size
section
variable {W w:World} {b:Nat} {F:Nat→Prop} {L:List Nd} (h:OB W w b F L)
include h
end
end Go.Proofs.YtammlljefhakmaaGreatDoor
namespace Go.Proofs.YtammlljefhakmaaGreatDoor
open Go.RowKit Go.Maps
set_option maxRecDepth 100000
theorem vP{id:Int}:∀{L:List Nd},(∀n∈L,n.2.1≠id)→bD id L=0
 |[],_=>rfl
 |n::r,h=>by
  unfold bD
  rw[if_neg (h n (by simp)),vP (fun x hx=>h x (List.mem_cons_of_mem _ hx))]
  rfl
theorem Fw(id j d:Int):∀(L:List Nd),bD id (L.map (gV j d))=bD id L
 |[]=>rfl
 |n::r=>by
  rw[List.map_cons]
  unfold bD
  rw[Fw id j d r]
  unfold gV
  split<;>rfl
structure Deep(L:List Nd)(k hs:Int):Prop where
 good:bR L
 pos:1≤k
 at_:∃up,aG k L=some (k,up,hs,0)
 out:∀n∈L,n.1≤k
 kids:∀n∈L,n.2.1<k
end Go.Proofs.YtammlljefhakmaaGreatDoor
namespace Go.Proofs.YtammlljefhakmaaGreatDoor
open Go.RowKit Go.Maps
set_option maxRecDepth 100000
end Go.Proofs.YtammlljefhakmaaGreatDoor
namespace Go.Proofs.YtammlljefhakmaaGreatDoor
open Go.RowKit
set_option maxRecDepth 100000
def kg(f:Nd→Int):List Nd→Int
 |[]=>0
 |n::r=>f n+kg f r
theorem vQ{f g:Nd→Int}:∀{L:List Nd},(∀n∈L,f n=g n)→kg f L=kg g L
 |[],_=>rfl
 |n::r,h=>by
  unfold kg
  rw[h n (by simp),vQ (fun x hx=>h x (List.mem_cons_of_mem _ hx))]
theorem Cj(f g:Nd→Int):∀(L:List Nd),kg (fun n=>f n-g n) L=kg f L-kg g L
 |[]=>rfl
 |n::r=>by
  unfold kg
  rw[Cj f g r]
  omega
theorem Ck(f g:Nd→Int):∀(L:List Nd),kg (fun n=>f n+g n) L=kg f L+kg g L
 |[]=>rfl
 |n::r=>by
  unfold kg
  rw[Ck f g r]
  omega
theorem Fx:∀(L:List Nd),kg (fun _=>0) L=0
 |[]=>rfl
 |n::r=>by
  unfold kg
  rw[Fx r]
  rfl
theorem yH(c v:Int):∀{M:List Nd},M.Pairwise (fun a b=>a.1<b.1)→kg (fun n=>if c=n.1 then v else 0) M=if(aG c M).isSome=true then v else 0
 |[],_=>rfl
 | n::r,hp=>by
  obtain⟨h1,h2⟩:=List.pairwise_cons.1 hp
  have ih:=yH c v h2
  unfold kg
  by_cases e:c=n.1
  ·have hn:aG c r=none:=dY.2 fun x hx=>by have:=h1 x hx;omega
   rw[hn]at ih
   have hs:aG c (n::r)=some n:=by unfold aG;rw[if_pos e.symm]
   rw[ih,hs]
   simp[e]
  ·have hs:aG c (n::r)=aG c r:=by rw[aG,if_neg (fun x=>e x.symm)]
   rw[ih,hs,if_neg e]
   omega
theorem Fy{M:List Nd}(hp:M.Pairwise (fun a b=>a.1<b.1)):∀(K:List Nd),kg (fun n=>bD n.1 K) M=kg (fun c=>if(aG c.2.1 M).isSome=true then c.2.2.1 else 0) K
 |[]=>by simp[bD,kg,Fx]
 |c::r=>by
  unfold bD
  rw[Ck,Fy hp r,yH _ _ hp]
  rfl
structure Tree(q:Int)(L:List Nd):Prop where
 good:bR L
 first:∃u,aG 1 L=some (1,0,q,u)
 rank:∃r:Int→Nat,∀n∈L,n.1≠1→(∃x,aG n.2.1 L=some x)∧r n.2.1<r n.1
 left:∀n∈L,0≤eT L n
theorem Tree.one{q:Int}(h:0≤q∧q≤65536):Tree q [(1,0,q,0)]:=by
 refine⟨bR.one q h.1 h.2,⟨0,rfl⟩,⟨fun _=>0,fun n hn=>?_⟩,fun n hn=>?_⟩
 ·simp only[List.mem_singleton]at hn
  subst hn
  intro h
  exact absurd rfl h
 ·simp only[List.mem_singleton]at hn
  subst hn
  simp[eT,bD]
  omega
theorem Tree.acR{q:Int}{L:List Nd}(h:Tree q L){id:Int}(h1:1≤id)(hn:aG id L=none):∀n∈L,n.2.1≠id:=fun n hm e=>by
 obtain⟨r,hr⟩:=h.rank
 by_cases c:n.1=1
 ·obtain⟨u,hu⟩:=h.first
  have:=dO h.good.up hm
  rw[c,hu]at this
  cases this
  simp only at e
  omega
 ·obtain⟨⟨x,hx⟩,_⟩:=hr n hm c
  rw[e,hn]at hx
  cases hx
theorem Tree.total{q:Int}{L:List Nd}(h:Tree q L):kg (fun n=>n.2.2.2+eT L n) L=q:=by
 obtain⟨r,hr⟩:=h.rank
 obtain⟨u,hu⟩:=h.first
 have e1:kg (fun n=>n.2.2.2+eT L n) L=kg (fun n=>n.2.2.1-bD n.1 L) L:=vQ fun n _=>by unfold eT;omega
 rw[e1,Cj,Fy h.good.up,←Cj]
 have e2:kg (fun n=>n.2.2.1-if(aG n.2.1 L).isSome=true then n.2.2.1 else 0) L=kg (fun n=>if(1:Int)=n.1 then q else 0) L:=vQ fun n hm=>by
  by_cases c:n.1=1
  ·have hn:=dO h.good.up hm
   rw[c,hu]at hn
   cases hn
   have h0:aG 0 L=none:=dY.2 fun x hx=>by have:=(h.good.ok x hx).1;omega
   simp[h0]
  ·obtain⟨⟨x,hx⟩,_⟩:=hr n hm c
   rw[hx,if_neg (show ¬(1:Int)=n.1 from fun e=>c e.symm)]
   simp
 rw[e2,yH _ _ h.good.up,hu]
 rfl
theorem Tree.open{q:Int}{L:List Nd}(h:Tree q L)(id up n:Int):Tree q (dz L id up n):=by
 by_cases he:iX L id up n=0
 ·have hg:=h.good.open id up n
  obtain⟨⟨hf1,hf2⟩,⟨nu,hnu⟩,hno,hle⟩:=jN.1 he
  have hol:dz L id up n=jE (id,up,n,0) L:=by unfold dz;rw[if_pos he]
  rw[hol]at hg ⊢
  have hne:=dY.1 hno
  have b1:=bE.1 hf1
  obtain⟨u,hu⟩:=h.first
  obtain⟨r,hr⟩:=h.rank
  have ajq:(1:Int)≠id:=fun e=>by rw[←e,hu]at hno;cases hno
  have ab0:up≠id:=fun e=>by rw[e,hno]at hnu;cases hnu
  have aeM:=h.acR b1.1.1 hno
  have at_:∀i x,aG i L=some x→aG i (jE (id,up,n,0) L)=some x:=fun i x hx=>by
   rw[jh hne,if_neg (show i≠id from fun e=>by rw[e,hno]at hx;cases hx),hx]
  refine⟨hg,⟨u,at_ _ _ hu⟩,⟨fun i=>if i=id then r up+1 else r i,fun m hm h1=>?_⟩,fun m hm=>?_⟩
  ·rcases eU.1 hm with rfl|hm
   ·refine⟨⟨nu,at_ _ _ hnu⟩,?_⟩
    simp only
    rw[if_neg ab0,if_pos trivial]
    omega
   ·obtain⟨⟨x,hx⟩,hlt⟩:=hr m hm h1
    refine⟨⟨x,at_ _ _ hx⟩,?_⟩
    simp only
    rw[if_neg (aeM m hm),if_neg (hne m hm)]
    exact hlt
  ·unfold eT
   rw[uZ]
   rcases eU.1 hm with rfl|hm
   ·simp only
    rw[if_neg ab0,vP aeM]
    omega
   ·have h0:=h.left m hm
    unfold eT at h0
    simp only
    split
    ·rename_i e
     have:=dO h.good.up hm
     rw[←e]at this
     rw[gJ this,e]at hle
     omega
    ·omega
 ·unfold dz
  rw[if_neg he]
  exact h
theorem yI(i id:Int):∀{L:List Nd},L.Pairwise (fun a b=>a.1<b.1)→∀{n:Nd},aG id L=some n→bD i L=bD i (fU id L)+(if n.2.1=i then n.2.2.1 else 0)
 | y::r,hp,n,h=>by
  obtain⟨h1,h2⟩:=List.pairwise_cons.1 hp
  unfold aG at h
  by_cases e:y.1=id
  ·rw[if_pos e]at h
   cases h
   have:fU id (y::r)=r:=by
    unfold fU
    rw[List.filter_cons_of_neg (by simpa using e),List.filter_eq_self]
    intro x hx
    have:=h1 x hx
    simp;omega
   rw[this,bD]
   omega
  ·rw[if_neg e]at h
   have ih:=yI i id h2 h
   have:fU id (y::r)=y::fU id r:=by
    unfold fU
    rw[List.filter_cons_of_pos (by simpa using e)]
   rw[this,bD,bD,ih]
   omega
theorem KH(i id p:Int)(hi:i≠id):∀(M:List Nd),bD i (M.map (fQ id p))=bD i M+(if p=i then bD id M else 0)
 |[]=>by simp[bD]
 | y::r=>by
  have ih:=KH i id p hi r
  rw[List.map_cons,bD,ih,bD,bD]
  unfold fQ
  by_cases e:y.2.1=id
  ·rw[if_pos e,if_pos e,if_neg (show ¬y.2.1=i by omega)]
   simp only
   split<;>omega
  ·rw[if_neg e,if_neg e]
   split<;>split<;>omega
theorem Tree.RO{q:Int}{L:List Nd}(h:Tree q L){id:Int}{n:Nd}(hn:aG id L=some n)(h1:id≠1)(i:Int)(hi:i≠id):n.2.1≠id∧bD i ((fU id L).map (fQ id n.2.1))=bD i L-(if n.2.1=i then n.2.2.1-bD id L else 0):=by
 obtain⟨r,hr⟩:=h.rank
 have hid:=(aj hn).2
 obtain⟨_,hlt⟩:=hr n (aj hn).1 (by rw[hid];exact h1)
 rw[hid]at hlt
 have hne:n.2.1≠id:=fun e=>by rw[e]at hlt;omega
 refine⟨hne,?_⟩
 rw[KH _ _ _ hi,yI i id h.good.up hn,yI id id h.good.up hn,if_neg hne]
 split<;>omega
theorem Tree.close{q:Int}{L:List Nd}(h:Tree q L)(id:Int):Tree q (fq L id):=by
 by_cases he:iq L id=0
 ·have hg:=h.good.close id
  obtain⟨hf,h1,n,hn,hu0⟩:=kC.1 he
  have hcl:fq L id=(fU id L).map (fQ id n.2.1):=by
   unfold fq Mx
   rw[if_pos he,hn]
   rfl
  rw[hcl]at hg ⊢
  have b1:=bE.1 hf
  obtain⟨u,hu⟩:=h.first
  obtain⟨r,hr⟩:=h.rank
  have hid:=(aj hn).2
  obtain⟨⟨xp,hxp⟩,hlt⟩:=hr n (aj hn).1 (by rw[hid];exact h1)
  rw[hid]at hlt
  have hne:n.2.1≠id:=fun e=>by rw[e]at hlt;omega
  have at_:∀i x,i≠id→aG i L=some x→aG i ((fU id L).map (fQ id n.2.1))=some (fQ id n.2.1 x):=fun i x hi hx=>by
   rw[bK (ko _ _),iC,if_neg hi,hx]
   rfl
  refine⟨hg,⟨u,?_⟩,⟨r,fun m' hm' hm1=>?_⟩,fun m' hm'=>?_⟩
  ·rw[at_ _ _ (fun e=>h1 e.symm) hu]
   unfold fQ
   rw[if_neg (show ¬(0:Int)=id by omega)]
  ·obtain⟨m,hm,rfl⟩:=List.mem_map.1 hm'
   obtain⟨hm,hmi⟩:=iB.1 hm
   rw[ko]at hm1 ⊢
   obtain⟨⟨x,hx⟩,hl2⟩:=hr m hm hm1
   unfold fQ
   by_cases e:m.2.1=id
   ·rw[if_pos e]
    rw[e]at hl2
    exact⟨⟨_,at_ _ _ hne hxp⟩,by simp only;omega⟩
   ·rw[if_neg e]
    exact⟨⟨_,at_ _ _ e hx⟩,hl2⟩
  ·obtain⟨m,hm,rfl⟩:=List.mem_map.1 hm'
   obtain⟨hm,hmi⟩:=iB.1 hm
   have h0:=h.left m hm
   have h2:=h.left n (aj hn).1
   have aha:=(h.RO hn h1 m.1 hmi).2
   unfold eT at h0 h2 ⊢
   rw[ko,aha]
   rw[hid]at h2
   have e3:(fQ id n.2.1 m).2.2=m.2.2:=by unfold fQ;split<;>rfl
   rw[e3]
   split<;>omega
 ·unfold fq
  rw[if_neg he]
  exact h
theorem Tree.gV{q:Int}{L:List Nd}(h:Tree q L){id d:Int}(hg:bR (L.map (gV id d)))(hl:∀x,aG id L=some x→d≤aO L id):Tree q (L.map (gV id d)):=by
 obtain⟨u,hu⟩:=h.first
 obtain⟨r,hr⟩:=h.rank
 have at_:∀i x,aG i L=some x→aG i (L.map (Go.Proofs.YtammlljefhakmaaGreatDoor.gV id d))=some (Go.Proofs.YtammlljefhakmaaGreatDoor.gV id d x):=fun i x hx=>by
  rw[bK (ku _ _),hx]
  rfl
 have hup:∀m:Nd,(Go.Proofs.YtammlljefhakmaaGreatDoor.gV id d m).2.1=m.2.1:=fun m=>by unfold Go.Proofs.YtammlljefhakmaaGreatDoor.gV;split<;>rfl
 refine⟨hg,?_,⟨r,fun m' hm' hm1=>?_⟩,fun m' hm'=>?_⟩
 ·by_cases e:(1:Int)=id
  ·exact⟨u+d,by rw[at_ _ _ hu];unfold Go.Proofs.YtammlljefhakmaaGreatDoor.gV;rw[if_pos e]⟩
  ·exact⟨u,by rw[at_ _ _ hu];unfold Go.Proofs.YtammlljefhakmaaGreatDoor.gV;rw[if_neg e]⟩
 ·obtain⟨m,hm,rfl⟩:=List.mem_map.1 hm'
  rw[ku]at hm1 ⊢
  rw[hup]
  obtain⟨⟨x,hx⟩,hl2⟩:=hr m hm hm1
  exact⟨⟨_,at_ _ _ hx⟩,hl2⟩
 ·obtain⟨m,hm,rfl⟩:=List.mem_map.1 hm'
  have h0:=h.left m hm
  unfold eT at h0 ⊢
  rw[ku,Fw]
  unfold Go.Proofs.YtammlljefhakmaaGreatDoor.gV
  split
  ·rename_i e
   have:=dO h.good.up hm
   rw[e]at this
   have h3:=hl _ this
   rw[gJ this]at h3
   rw[e]at h0 ⊢
   simp only
   omega
  ·exact h0
theorem Tree.nD{q:Int}{L:List Nd}(h:Tree q L)(id n:Int):Tree q (aB L id n):=by
 have hg:=h.good.nD id n
 by_cases he:aX L id n=0
 ·have hcl:aB L id n=L.map (Go.Proofs.YtammlljefhakmaaGreatDoor.gV id n):=by unfold aB;rw[if_pos he]
  rw[hcl]at hg ⊢
  exact h.gV hg fun _ _=>(eD.1 he).2.2
 ·unfold aB
  rw[if_neg he]
  exact h
theorem Tree.aO{q:Int}{L:List Nd}(h:Tree q L)(id:Int):0≤aO L id:=by
 unfold Go.Proofs.YtammlljefhakmaaGreatDoor.aO
 cases e:aG id L with
 |none=>exact Int.le_refl _
 |some x=>exact h.left x (aj e).1
theorem Tree.oW{q:Int}{L:List Nd}(h:Tree q L)(id n:Int):Tree q (bV L id n):=by
 have hg:=h.good.oW id n
 by_cases he:fI L id n=0
 ·have hcl:bV L id n=L.map (Go.Proofs.YtammlljefhakmaaGreatDoor.gV id (-n)):=by unfold bV;rw[if_pos he]
  rw[hcl]at hg ⊢
  refine h.gV hg fun _ _=>?_
  have:=(bE.1 (ji.1 he).1).2
  have:=h.aO id
  omega
 ·unfold bV
  rw[if_neg he]
  exact h
end Go.Proofs.YtammlljefhakmaaGreatDoor
