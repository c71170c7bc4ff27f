/- Helps of the proof. No condition. -/
import Derived.Test.YtammlljefhakmaaGreatDoorHA
namespace Go.Proofs.YtammlljefhakmaaGreatDoor
open Go.RowKit Go.Maps
set_option maxRecDepth 100000
end Go.Proofs.YtammlljefhakmaaGreatDoor
namespace Go.Proofs.YtammlljefhakmaaGreatDoor
open Go.RowKit Go.Maps
set_option maxRecDepth 100000
end Go.Proofs.YtammlljefhakmaaGreatDoor
namespace Go.Proofs.YtammlljefhakmaaGreatDoor
open Go.RowKit Go.Maps
set_option maxRecDepth 100000
end Go.Proofs.YtammlljefhakmaaGreatDoor
namespace Go.Proofs.YtammlljefhakmaaGreatDoor
open Go.RowKit Go.Maps
set_option maxRecDepth 100000
end Go.Proofs.YtammlljefhakmaaGreatDoor
namespace Go.Proofs.YtammlljefhakmaaGreatDoor
open Go.RowKit Go.Maps
set_option maxRecDepth 100000
end Go.Proofs.YtammlljefhakmaaGreatDoor
namespace Go.Proofs.YtammlljefhakmaaGreatDoor
open Go.RowKit Go.Maps
set_option maxRecDepth 100000
end Go.Proofs.YtammlljefhakmaaGreatDoor
namespace Go.Proofs.YtammlljefhakmaaGreatDoor
open Go.RowKit Go.Maps
set_option maxRecDepth 100000
structure OB(W w:World)(b:Nat)(F:Nat→Prop)(L:List Nd):Prop where
 ex:∃m P,bA w b m P L∧∀k,bB m P k→W.heap.size≤k∧¬F k
 below:Below W.heap.size W w
 nb:W.heap.size≤b
 flt:∀k,F k→k<w.heap.size
section
variable {W w:World} {b:Nat} {F:Nat→Prop} {L:List Nd} (h:OB W w b F L)
include h
end
end Go.Proofs.YtammlljefhakmaaGreatDoor
namespace Go.Proofs.YtammlljefhakmaaGreatDoor
open Go.RowKit Go.Maps
set_option maxRecDepth 100000
theorem vS{id:Int}:∀{L:List Nd},(∀n∈L,n.2.1≠id)→bH id L=0
 |[],_=>rfl
 |n::r,h=>by
  unfold bH
  rw[if_neg (h n (by simp)),vS (fun x hx=>h x (List.mem_cons_of_mem _ hx))]
  rfl
theorem yC(id j d:Int):∀(L:List Nd),bH id (L.map (gW j d))=bH id L
 |[]=>rfl
 |n::r=>by
  rw[List.map_cons]
  unfold bH
  rw[yC id j d r]
  unfold gW
  split<;>rfl
structure Deep(L:List Nd)(k hs:Int):Prop where
 good:bR L
 pos:1≤k
 at_:∃up,aD k L=some (k,up,hs,0)
 out:∀n∈L,n.1≤k
 kids:∀n∈L,n.2.1<k
end Go.Proofs.YtammlljefhakmaaGreatDoor
namespace Go.Proofs.YtammlljefhakmaaGreatDoor
open Go.RowKit Go.Maps
set_option maxRecDepth 100000
end Go.Proofs.YtammlljefhakmaaGreatDoor
namespace Go.Proofs.YtammlljefhakmaaGreatDoor
open Go.RowKit
set_option maxRecDepth 100000
def kg(f:Nd→Int):List Nd→Int
 |[]=>0
 |n::r=>f n+kg f r
theorem vT{f g:Nd→Int}:∀{L:List Nd},(∀n∈L,f n=g n)→kg f L=kg g L
 |[],_=>rfl
 |n::r,h=>by
  unfold kg
  rw[h n (by simp),vT (fun x hx=>h x (List.mem_cons_of_mem _ hx))]
theorem Ct(f g:Nd→Int):∀(L:List Nd),kg (fun n=>f n-g n) L=kg f L-kg g L
 |[]=>rfl
 |n::r=>by
  unfold kg
  rw[Ct f g r]
  omega
theorem Cu(f g:Nd→Int):∀(L:List Nd),kg (fun n=>f n+g n) L=kg f L+kg g L
 |[]=>rfl
 |n::r=>by
  unfold kg
  rw[Cu f g r]
  omega
theorem Ga:∀(L:List Nd),kg (fun _=>0) L=0
 |[]=>rfl
 |n::r=>by
  unfold kg
  rw[Ga r]
  rfl
theorem yD(c v:Int):∀{M:List Nd},M.Pairwise (fun a b=>a.1<b.1)→kg (fun n=>if c=n.1 then v else 0) M=if(aD c M).isSome=true then v else 0
 |[],_=>rfl
 | n::r,hp=>by
  obtain⟨h1,h2⟩:=List.pairwise_cons.1 hp
  have ih:=yD c v h2
  unfold kg
  by_cases e:c=n.1
  ·have hn:aD c r=none:=dZ.2 fun x hx=>by have:=h1 x hx;omega
   rw[hn]at ih
   have hs:aD c (n::r)=some n:=by unfold aD;rw[if_pos e.symm]
   rw[ih,hs]
   simp[e]
  ·have hs:aD c (n::r)=aD c r:=by rw[aD,if_neg (fun x=>e x.symm)]
   rw[ih,hs,if_neg e]
   omega
theorem Gb{M:List Nd}(hp:M.Pairwise (fun a b=>a.1<b.1)):∀(K:List Nd),kg (fun n=>bH n.1 K) M=kg (fun c=>if(aD c.2.1 M).isSome=true then c.2.2.1 else 0) K
 |[]=>by simp[bH,kg,Ga]
 |c::r=>by
  unfold bH
  rw[Cu,Gb hp r,yD _ _ hp]
  rfl
structure Tree(q:Int)(L:List Nd):Prop where
 good:bR L
 first:∃u,aD 1 L=some (1,0,q,u)
 rank:∃r:Int→Nat,∀n∈L,n.1≠1→(∃x,aD n.2.1 L=some x)∧r n.2.1<r n.1
 left:∀n∈L,0≤eZ L n
theorem Tree.one{q:Int}(h:0≤q∧q≤65536):Tree q [(1,0,q,0)]:=by
 refine⟨bR.one q h.1 h.2,⟨0,rfl⟩,⟨fun _=>0,fun n hn=>?_⟩,fun n hn=>?_⟩
 ·simp only[List.mem_singleton]at hn
  subst hn
  intro h
  exact absurd rfl h
 ·simp only[List.mem_singleton]at hn
  subst hn
  simp[eZ,bH]
  omega
theorem Tree.adr{q:Int}{L:List Nd}(h:Tree q L){id:Int}(h1:1≤id)(hn:aD id L=none):∀n∈L,n.2.1≠id:=fun n hm e=>by
 obtain⟨r,hr⟩:=h.rank
 by_cases c:n.1=1
 ·obtain⟨u,hu⟩:=h.first
  have:=dI h.good.up hm
  rw[c,hu]at this
  cases this
  simp only at e
  omega
 ·obtain⟨⟨x,hx⟩,_⟩:=hr n hm c
  rw[e,hn]at hx
  cases hx
theorem Tree.total{q:Int}{L:List Nd}(h:Tree q L):kg (fun n=>n.2.2.2+eZ L n) L=q:=by
 obtain⟨r,hr⟩:=h.rank
 obtain⟨u,hu⟩:=h.first
 have e1:kg (fun n=>n.2.2.2+eZ L n) L=kg (fun n=>n.2.2.1-bH n.1 L) L:=vT fun n _=>by unfold eZ;omega
 rw[e1,Ct,Gb h.good.up,←Ct]
 have e2:kg (fun n=>n.2.2.1-if(aD n.2.1 L).isSome=true then n.2.2.1 else 0) L=kg (fun n=>if(1:Int)=n.1 then q else 0) L:=vT fun n hm=>by
  by_cases c:n.1=1
  ·have hn:=dI h.good.up hm
   rw[c,hu]at hn
   cases hn
   have h0:aD 0 L=none:=dZ.2 fun x hx=>by have:=(h.good.ok x hx).1;omega
   simp[h0]
  ·obtain⟨⟨x,hx⟩,_⟩:=hr n hm c
   rw[hx,if_neg (show ¬(1:Int)=n.1 from fun e=>c e.symm)]
   simp
 rw[e2,yD _ _ h.good.up,hu]
 rfl
theorem Tree.open{q:Int}{L:List Nd}(h:Tree q L)(id up n:Int):Tree q (dx L id up n):=by
 by_cases he:jc L id up n=0
 ·have hg:=h.good.open id up n
  obtain⟨⟨hf1,hf2⟩,⟨nu,hnu⟩,hno,hle⟩:=jO.1 he
  have hol:dx L id up n=jF (id,up,n,0) L:=by unfold dx;rw[if_pos he]
  rw[hol]at hg ⊢
  have hne:=dZ.1 hno
  have b1:=bN.1 hf1
  obtain⟨u,hu⟩:=h.first
  obtain⟨r,hr⟩:=h.rank
  have ajN:(1:Int)≠id:=fun e=>by rw[←e,hu]at hno;cases hno
  have abC:up≠id:=fun e=>by rw[e,hno]at hnu;cases hnu
  have afh:=h.adr b1.1.1 hno
  have at_:∀i x,aD i L=some x→aD i (jF (id,up,n,0) L)=some x:=fun i x hx=>by
   rw[ji hne,if_neg (show i≠id from fun e=>by rw[e,hno]at hx;cases hx),hx]
  refine⟨hg,⟨u,at_ _ _ hu⟩,⟨fun i=>if i=id then r up+1 else r i,fun m hm h1=>?_⟩,fun m hm=>?_⟩
  ·rcases eG.1 hm with rfl|hm
   ·refine⟨⟨nu,at_ _ _ hnu⟩,?_⟩
    simp only
    rw[if_neg abC,if_pos trivial]
    omega
   ·obtain⟨⟨x,hx⟩,hlt⟩:=hr m hm h1
    refine⟨⟨x,at_ _ _ hx⟩,?_⟩
    simp only
    rw[if_neg (afh m hm),if_neg (hne m hm)]
    exact hlt
  ·unfold eZ
   rw[vk]
   rcases eG.1 hm with rfl|hm
   ·simp only
    rw[if_neg abC,vS afh]
    omega
   ·have h0:=h.left m hm
    unfold eZ at h0
    simp only
    split
    ·rename_i e
     have:=dI h.good.up hm
     rw[←e]at this
     rw[gK this,e]at hle
     omega
    ·omega
 ·unfold dx
  rw[if_neg he]
  exact h
theorem yE(i id:Int):∀{L:List Nd},L.Pairwise (fun a b=>a.1<b.1)→∀{n:Nd},aD id L=some n→bH i L=bH i (fT id L)+(if n.2.1=i then n.2.2.1 else 0)
 | y::r,hp,n,h=>by
  obtain⟨h1,h2⟩:=List.pairwise_cons.1 hp
  unfold aD at h
  by_cases e:y.1=id
  ·rw[if_pos e]at h
   cases h
   have:fT id (y::r)=r:=by
    unfold fT
    rw[List.filter_cons_of_neg (by simpa using e),List.filter_eq_self]
    intro x hx
    have:=h1 x hx
    simp;omega
   rw[this,bH]
   omega
  ·rw[if_neg e]at h
   have ih:=yE i id h2 h
   have:fT id (y::r)=y::fT id r:=by
    unfold fT
    rw[List.filter_cons_of_pos (by simpa using e)]
   rw[this,bH,bH,ih]
   omega
theorem KW(i id p:Int)(hi:i≠id):∀(M:List Nd),bH i (M.map (fP id p))=bH i M+(if p=i then bH id M else 0)
 |[]=>by simp[bH]
 | y::r=>by
  have ih:=KW i id p hi r
  rw[List.map_cons,bH,ih,bH,bH]
  unfold fP
  by_cases e:y.2.1=id
  ·rw[if_pos e,if_pos e,if_neg (show ¬y.2.1=i by omega)]
   simp only
   split<;>omega
  ·rw[if_neg e,if_neg e]
   split<;>split<;>omega
theorem Tree.SQ{q:Int}{L:List Nd}(h:Tree q L){id:Int}{n:Nd}(hn:aD id L=some n)(h1:id≠1)(i:Int)(hi:i≠id):n.2.1≠id∧bH i ((fT id L).map (fP id n.2.1))=bH i L-(if n.2.1=i then n.2.2.1-bH id L else 0):=by
 obtain⟨r,hr⟩:=h.rank
 have hid:=(aj hn).2
 obtain⟨_,hlt⟩:=hr n (aj hn).1 (by rw[hid];exact h1)
 rw[hid]at hlt
 have hne:n.2.1≠id:=fun e=>by rw[e]at hlt;omega
 refine⟨hne,?_⟩
 rw[KW _ _ _ hi,yE i id h.good.up hn,yE id id h.good.up hn,if_neg hne]
 split<;>omega
theorem Tree.close{q:Int}{L:List Nd}(h:Tree q L)(id:Int):Tree q (fq L id):=by
 by_cases he:iy L id=0
 ·have hg:=h.good.close id
  obtain⟨hf,h1,n,hn,hu0⟩:=kD.1 he
  have hcl:fq L id=(fT id L).map (fP id n.2.1):=by
   unfold fq MS
   rw[if_pos he,hn]
   rfl
  rw[hcl]at hg ⊢
  have b1:=bN.1 hf
  obtain⟨u,hu⟩:=h.first
  obtain⟨r,hr⟩:=h.rank
  have hid:=(aj hn).2
  obtain⟨⟨xp,hxp⟩,hlt⟩:=hr n (aj hn).1 (by rw[hid];exact h1)
  rw[hid]at hlt
  have hne:n.2.1≠id:=fun e=>by rw[e]at hlt;omega
  have at_:∀i x,i≠id→aD i L=some x→aD i ((fT id L).map (fP id n.2.1))=some (fP id n.2.1 x):=fun i x hi hx=>by
   rw[bC (kC _ _),iG,if_neg hi,hx]
   rfl
  refine⟨hg,⟨u,?_⟩,⟨r,fun m' hm' hm1=>?_⟩,fun m' hm'=>?_⟩
  ·rw[at_ _ _ (fun e=>h1 e.symm) hu]
   unfold fP
   rw[if_neg (show ¬(0:Int)=id by omega)]
  ·obtain⟨m,hm,rfl⟩:=List.mem_map.1 hm'
   obtain⟨hm,hmi⟩:=iF.1 hm
   rw[kC]at hm1 ⊢
   obtain⟨⟨x,hx⟩,hl2⟩:=hr m hm hm1
   unfold fP
   by_cases e:m.2.1=id
   ·rw[if_pos e]
    rw[e]at hl2
    exact⟨⟨_,at_ _ _ hne hxp⟩,by simp only;omega⟩
   ·rw[if_neg e]
    exact⟨⟨_,at_ _ _ e hx⟩,hl2⟩
  ·obtain⟨m,hm,rfl⟩:=List.mem_map.1 hm'
   obtain⟨hm,hmi⟩:=iF.1 hm
   have h0:=h.left m hm
   have h2:=h.left n (aj hn).1
   have ahv:=(h.SQ hn h1 m.1 hmi).2
   unfold eZ at h0 h2 ⊢
   rw[kC,ahv]
   rw[hid]at h2
   have e3:(fP id n.2.1 m).2.2=m.2.2:=by unfold fP;split<;>rfl
   rw[e3]
   split<;>omega
 ·unfold fq
  rw[if_neg he]
  exact h
theorem Tree.gW{q:Int}{L:List Nd}(h:Tree q L){id d:Int}(hg:bR (L.map (gW id d)))(hl:∀x,aD id L=some x→d≤aS L id):Tree q (L.map (gW id d)):=by
 obtain⟨u,hu⟩:=h.first
 obtain⟨r,hr⟩:=h.rank
 have at_:∀i x,aD i L=some x→aD i (L.map (Go.Proofs.YtammlljefhakmaaGreatDoor.gW id d))=some (Go.Proofs.YtammlljefhakmaaGreatDoor.gW id d x):=fun i x hx=>by
  rw[bC (iV _ _),hx]
  rfl
 have hup:∀m:Nd,(Go.Proofs.YtammlljefhakmaaGreatDoor.gW id d m).2.1=m.2.1:=fun m=>by unfold Go.Proofs.YtammlljefhakmaaGreatDoor.gW;split<;>rfl
 refine⟨hg,?_,⟨r,fun m' hm' hm1=>?_⟩,fun m' hm'=>?_⟩
 ·by_cases e:(1:Int)=id
  ·exact⟨u+d,by rw[at_ _ _ hu];unfold Go.Proofs.YtammlljefhakmaaGreatDoor.gW;rw[if_pos e]⟩
  ·exact⟨u,by rw[at_ _ _ hu];unfold Go.Proofs.YtammlljefhakmaaGreatDoor.gW;rw[if_neg e]⟩
 ·obtain⟨m,hm,rfl⟩:=List.mem_map.1 hm'
  rw[iV]at hm1 ⊢
  rw[hup]
  obtain⟨⟨x,hx⟩,hl2⟩:=hr m hm hm1
  exact⟨⟨_,at_ _ _ hx⟩,hl2⟩
 ·obtain⟨m,hm,rfl⟩:=List.mem_map.1 hm'
  have h0:=h.left m hm
  unfold eZ at h0 ⊢
  rw[iV,yC]
  unfold Go.Proofs.YtammlljefhakmaaGreatDoor.gW
  split
  ·rename_i e
   have:=dI h.good.up hm
   rw[e]at this
   have h3:=hl _ this
   rw[gK this]at h3
   rw[e]at h0 ⊢
   simp only
   omega
  ·exact h0
theorem Tree.nE{q:Int}{L:List Nd}(h:Tree q L)(id n:Int):Tree q (aF L id n):=by
 have hg:=h.good.nE id n
 by_cases he:aX L id n=0
 ·have hcl:aF L id n=L.map (Go.Proofs.YtammlljefhakmaaGreatDoor.gW id n):=by unfold aF;rw[if_pos he]
  rw[hcl]at hg ⊢
  exact h.gW hg fun _ _=>(fK.1 he).2.2
 ·unfold aF
  rw[if_neg he]
  exact h
theorem Tree.aS{q:Int}{L:List Nd}(h:Tree q L)(id:Int):0≤aS L id:=by
 unfold Go.Proofs.YtammlljefhakmaaGreatDoor.aS
 cases e:aD id L with
 |none=>exact Int.le_refl _
 |some x=>exact h.left x (aj e).1
theorem Tree.oQ{q:Int}{L:List Nd}(h:Tree q L)(id n:Int):Tree q (bI L id n):=by
 have hg:=h.good.oQ id n
 by_cases he:fH L id n=0
 ·have hcl:bI L id n=L.map (Go.Proofs.YtammlljefhakmaaGreatDoor.gW id (-n)):=by unfold bI;rw[if_pos he]
  rw[hcl]at hg ⊢
  refine h.gW hg fun _ _=>?_
  have:=(bN.1 (jk.1 he).1).2
  have:=h.aS id
  omega
 ·unfold bI
  rw[if_neg he]
  exact h
end Go.Proofs.YtammlljefhakmaaGreatDoor
