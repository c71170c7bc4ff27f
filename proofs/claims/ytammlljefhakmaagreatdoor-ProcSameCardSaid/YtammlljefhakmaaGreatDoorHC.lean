/- Helps of the proof. No condition. -/
import Derived.Test.YtammlljefhakmaaGreatDoorHA
namespace Go.Proofs.YtammlljefhakmaaGreatDoor
open Go.RowKit Go.Maps
set_option maxRecDepth 100000
end Go.Proofs.YtammlljefhakmaaGreatDoor
namespace Go.Proofs.YtammlljefhakmaaGreatDoor
open Go.RowKit Go.Maps
set_option maxRecDepth 100000
end Go.Proofs.YtammlljefhakmaaGreatDoor
namespace Go.Proofs.YtammlljefhakmaaGreatDoor
open Go.RowKit Go.Maps
set_option maxRecDepth 100000
end Go.Proofs.YtammlljefhakmaaGreatDoor
namespace Go.Proofs.YtammlljefhakmaaGreatDoor
open Go.RowKit Go.Maps
set_option maxRecDepth 100000
end Go.Proofs.YtammlljefhakmaaGreatDoor
namespace Go.Proofs.YtammlljefhakmaaGreatDoor
open Go.RowKit Go.Maps
set_option maxRecDepth 100000
end Go.Proofs.YtammlljefhakmaaGreatDoor
namespace Go.Proofs.YtammlljefhakmaaGreatDoor
open Go.RowKit Go.Maps
set_option maxRecDepth 100000
end Go.Proofs.YtammlljefhakmaaGreatDoor
namespace Go.Proofs.YtammlljefhakmaaGreatDoor
open Go.RowKit Go.Maps
set_option maxRecDepth 100000
structure OB(W w:World)(b:Nat)(F:Nat→Prop)(L:List Nd):Prop where
 ex:∃m P,bH w b m P L∧∀k,bB m P k→W.heap.size≤k∧¬F k
 below:Below W.heap.size W w
 nb:W.heap.size≤b
 flt:∀k,F k→k<w.heap.size
section
variable {W w:World} {b:Nat} {F:Nat→Prop} {L:List Nd} (h:OB W w b F L)
include h
end
end Go.Proofs.YtammlljefhakmaaGreatDoor
namespace Go.Proofs.YtammlljefhakmaaGreatDoor
open Go.RowKit Go.Maps
set_option maxRecDepth 100000
theorem vk{id:Int}:∀{L:List Nd},(∀n∈L,n.2.1≠id)→bO id L=0
 |[],_=>rfl
 |n::r,h=>by
  unfold bO
  rw[if_neg (h n (by simp)),vk (fun x hx=>h x (List.mem_cons_of_mem _ hx))]
  rfl
theorem xR(id j d:Int):∀(L:List Nd),bO id (L.map (gU j d))=bO id L
 |[]=>rfl
 |n::r=>by
  rw[List.map_cons]
  unfold bO
  rw[xR id j d r]
  unfold gU
  split<;>rfl
structure Deep(L:List Nd)(k hs:Int):Prop where
 good:bN L
 pos:1≤k
 at_:∃up,aH k L=some (k,up,hs,0)
 out:∀n∈L,n.1≤k
 kids:∀n∈L,n.2.1<k
end Go.Proofs.YtammlljefhakmaaGreatDoor
namespace Go.Proofs.YtammlljefhakmaaGreatDoor
open Go.RowKit Go.Maps
set_option maxRecDepth 100000
end Go.Proofs.YtammlljefhakmaaGreatDoor
namespace Go.Proofs.YtammlljefhakmaaGreatDoor
open Go.RowKit
set_option maxRecDepth 100000
def jY(f:Nd→Int):List Nd→Int
 |[]=>0
 |n::r=>f n+jY f r
theorem vo{f g:Nd→Int}:∀{L:List Nd},(∀n∈L,f n=g n)→jY f L=jY g L
 |[],_=>rfl
 |n::r,h=>by
  unfold jY
  rw[h n (by simp),vo (fun x hx=>h x (List.mem_cons_of_mem _ hx))]
theorem Bw(f g:Nd→Int):∀(L:List Nd),jY (fun n=>f n-g n) L=jY f L-jY g L
 |[]=>rfl
 |n::r=>by
  unfold jY
  rw[Bw f g r]
  omega
theorem Bz(f g:Nd→Int):∀(L:List Nd),jY (fun n=>f n+g n) L=jY f L+jY g L
 |[]=>rfl
 |n::r=>by
  unfold jY
  rw[Bz f g r]
  omega
theorem EH:∀(L:List Nd),jY (fun _=>0) L=0
 |[]=>rfl
 |n::r=>by
  unfold jY
  rw[EH r]
  rfl
theorem xS(c v:Int):∀{M:List Nd},M.Pairwise (fun a b=>a.1<b.1)→jY (fun n=>if c=n.1 then v else 0) M=if(aH c M).isSome=true then v else 0
 |[],_=>rfl
 | n::r,hp=>by
  obtain⟨h1,h2⟩:=List.pairwise_cons.1 hp
  have ih:=xS c v h2
  unfold jY
  by_cases e:c=n.1
  ·have hn:aH c r=none:=dH.2 fun x hx=>by have:=h1 x hx;omega
   rw[hn]at ih
   have hs:aH c (n::r)=some n:=by unfold aH;rw[if_pos e.symm]
   rw[ih,hs]
   simp[e]
  ·have hs:aH c (n::r)=aH c r:=by rw[aH,if_neg (fun x=>e x.symm)]
   rw[ih,hs,if_neg e]
   omega
theorem EI{M:List Nd}(hp:M.Pairwise (fun a b=>a.1<b.1)):∀(K:List Nd),jY (fun n=>bO n.1 K) M=jY (fun c=>if(aH c.2.1 M).isSome=true then c.2.2.1 else 0) K
 |[]=>by simp[bO,jY,EH]
 |c::r=>by
  unfold bO
  rw[Bz,EI hp r,xS _ _ hp]
  rfl
structure Tree(q:Int)(L:List Nd):Prop where
 good:bN L
 first:∃u,aH 1 L=some (1,0,q,u)
 rank:∃r:Int→Nat,∀n∈L,n.1≠1→(∃x,aH n.2.1 L=some x)∧r n.2.1<r n.1
 left:∀n∈L,0≤dV L n
theorem Tree.one{q:Int}(h:0≤q∧q≤65536):Tree q [(1,0,q,0)]:=by
 refine⟨bN.one q h.1 h.2,⟨0,rfl⟩,⟨fun _=>0,fun n hn=>?_⟩,fun n hn=>?_⟩
 ·simp only[List.mem_singleton]at hn
  subst hn
  intro h
  exact absurd rfl h
 ·simp only[List.mem_singleton]at hn
  subst hn
  simp[dV,bO]
  omega
theorem Tree.abl{q:Int}{L:List Nd}(h:Tree q L){id:Int}(h1:1≤id)(hn:aH id L=none):∀n∈L,n.2.1≠id:=fun n hm e=>by
 obtain⟨r,hr⟩:=h.rank
 by_cases c:n.1=1
 ·obtain⟨u,hu⟩:=h.first
  have:=dW h.good.up hm
  rw[c,hu]at this
  cases this
  simp only at e
  omega
 ·obtain⟨⟨x,hx⟩,_⟩:=hr n hm c
  rw[e,hn]at hx
  cases hx
theorem Tree.total{q:Int}{L:List Nd}(h:Tree q L):jY (fun n=>n.2.2.2+dV L n) L=q:=by
 obtain⟨r,hr⟩:=h.rank
 obtain⟨u,hu⟩:=h.first
 have e1:jY (fun n=>n.2.2.2+dV L n) L=jY (fun n=>n.2.2.1-bO n.1 L) L:=vo fun n _=>by unfold dV;omega
 rw[e1,Bw,EI h.good.up,←Bw]
 have e2:jY (fun n=>n.2.2.1-if(aH n.2.1 L).isSome=true then n.2.2.1 else 0) L=jY (fun n=>if(1:Int)=n.1 then q else 0) L:=vo fun n hm=>by
  by_cases c:n.1=1
  ·have hn:=dW h.good.up hm
   rw[c,hu]at hn
   cases hn
   have h0:aH 0 L=none:=dH.2 fun x hx=>by have:=(h.good.ok x hx).1;omega
   simp[h0]
  ·obtain⟨⟨x,hx⟩,_⟩:=hr n hm c
   rw[hx,if_neg (show ¬(1:Int)=n.1 from fun e=>c e.symm)]
   simp
 rw[e2,xS _ _ h.good.up,hu]
 rfl
theorem Tree.open{q:Int}{L:List Nd}(h:Tree q L)(id up n:Int):Tree q (bX L id up n):=by
 by_cases he:gT L id up n=0
 ·have hg:=h.good.open id up n
  obtain⟨⟨hf1,hf2⟩,⟨nu,hnu⟩,hno,hle⟩:=jH.1 he
  have hol:bX L id up n=jw (id,up,n,0) L:=by unfold bX;rw[if_pos he]
  rw[hol]at hg ⊢
  have hne:=dH.1 hno
  have b1:=bT.1 hf1
  obtain⟨u,hu⟩:=h.first
  obtain⟨r,hr⟩:=h.rank
  have ahA:(1:Int)≠id:=fun e=>by rw[←e,hu]at hno;cases hno
  have ZE:up≠id:=fun e=>by rw[e,hno]at hnu;cases hnu
  have adf:=h.abl b1.1.1 hno
  have at_:∀i x,aH i L=some x→aH i (jw (id,up,n,0) L)=some x:=fun i x hx=>by
   rw[gG hne,if_neg (show i≠id from fun e=>by rw[e,hno]at hx;cases hx),hx]
  refine⟨hg,⟨u,at_ _ _ hu⟩,⟨fun i=>if i=id then r up+1 else r i,fun m hm h1=>?_⟩,fun m hm=>?_⟩
  ·rcases dS.1 hm with rfl|hm
   ·refine⟨⟨nu,at_ _ _ hnu⟩,?_⟩
    simp only
    rw[if_neg ZE,if_pos trivial]
    omega
   ·obtain⟨⟨x,hx⟩,hlt⟩:=hr m hm h1
    refine⟨⟨x,at_ _ _ hx⟩,?_⟩
    simp only
    rw[if_neg (adf m hm),if_neg (hne m hm)]
    exact hlt
  ·unfold dV
   rw[qj]
   rcases dS.1 hm with rfl|hm
   ·simp only
    rw[if_neg ZE,vk adf]
    omega
   ·have h0:=h.left m hm
    unfold dV at h0
    simp only
    split
    ·rename_i e
     have:=dW h.good.up hm
     rw[←e]at this
     rw[jv this,e]at hle
     omega
    ·omega
 ·unfold bX
  rw[if_neg he]
  exact h
theorem xU(i id:Int):∀{L:List Nd},L.Pairwise (fun a b=>a.1<b.1)→∀{n:Nd},aH id L=some n→bO i L=bO i (fM id L)+(if n.2.1=i then n.2.2.1 else 0)
 | y::r,hp,n,h=>by
  obtain⟨h1,h2⟩:=List.pairwise_cons.1 hp
  unfold aH at h
  by_cases e:y.1=id
  ·rw[if_pos e]at h
   cases h
   have:fM id (y::r)=r:=by
    unfold fM
    rw[List.filter_cons_of_neg (by simpa using e),List.filter_eq_self]
    intro x hx
    have:=h1 x hx
    simp;omega
   rw[this,bO]
   omega
  ·rw[if_neg e]at h
   have ih:=xU i id h2 h
   have:fM id (y::r)=y::fM id r:=by
    unfold fM
    rw[List.filter_cons_of_pos (by simpa using e)]
   rw[this,bO,bO,ih]
   omega
theorem JJ(i id p:Int)(hi:i≠id):∀(M:List Nd),bO i (M.map (eT id p))=bO i M+(if p=i then bO id M else 0)
 |[]=>by simp[bO]
 | y::r=>by
  have ih:=JJ i id p hi r
  rw[List.map_cons,bO,ih,bO,bO]
  unfold eT
  by_cases e:y.2.1=id
  ·rw[if_pos e,if_pos e,if_neg (show ¬y.2.1=i by omega)]
   simp only
   split<;>omega
  ·rw[if_neg e,if_neg e]
   split<;>split<;>omega
theorem Tree.Qx{q:Int}{L:List Nd}(h:Tree q L){id:Int}{n:Nd}(hn:aH id L=some n)(h1:id≠1)(i:Int)(hi:i≠id):n.2.1≠id∧bO i ((fM id L).map (eT id n.2.1))=bO i L-(if n.2.1=i then n.2.2.1-bO id L else 0):=by
 obtain⟨r,hr⟩:=h.rank
 have hid:=(aj hn).2
 obtain⟨_,hlt⟩:=hr n (aj hn).1 (by rw[hid];exact h1)
 rw[hid]at hlt
 have hne:n.2.1≠id:=fun e=>by rw[e]at hlt;omega
 refine⟨hne,?_⟩
 rw[JJ _ _ _ hi,xU i id h.good.up hn,xU id id h.good.up hn,if_neg hne]
 split<;>omega
theorem Tree.close{q:Int}{L:List Nd}(h:Tree q L)(id:Int):Tree q (eY L id):=by
 by_cases he:ig L id=0
 ·have hg:=h.good.close id
  obtain⟨hf,h1,n,hn,hu0⟩:=j5.1 he
  have hcl:eY L id=(fM id L).map (eT id n.2.1):=by
   unfold eY Lc
   rw[if_pos he,hn]
   rfl
  rw[hcl]at hg ⊢
  have b1:=bT.1 hf
  obtain⟨u,hu⟩:=h.first
  obtain⟨r,hr⟩:=h.rank
  have hid:=(aj hn).2
  obtain⟨⟨xp,hxp⟩,hlt⟩:=hr n (aj hn).1 (by rw[hid];exact h1)
  rw[hid]at hlt
  have hne:n.2.1≠id:=fun e=>by rw[e]at hlt;omega
  have at_:∀i x,i≠id→aH i L=some x→aH i ((fM id L).map (eT id n.2.1))=some (eT id n.2.1 x):=fun i x hi hx=>by
   rw[bD (j4 _ _),iB,if_neg hi,hx]
   rfl
  refine⟨hg,⟨u,?_⟩,⟨r,fun m' hm' hm1=>?_⟩,fun m' hm'=>?_⟩
  ·rw[at_ _ _ (fun e=>h1 e.symm) hu]
   unfold eT
   rw[if_neg (show ¬(0:Int)=id by omega)]
  ·obtain⟨m,hm,rfl⟩:=List.mem_map.1 hm'
   obtain⟨hm,hmi⟩:=iA.1 hm
   rw[j4]at hm1 ⊢
   obtain⟨⟨x,hx⟩,hl2⟩:=hr m hm hm1
   unfold eT
   by_cases e:m.2.1=id
   ·rw[if_pos e]
    rw[e]at hl2
    exact⟨⟨_,at_ _ _ hne hxp⟩,by simp only;omega⟩
   ·rw[if_neg e]
    exact⟨⟨_,at_ _ _ e hx⟩,hl2⟩
  ·obtain⟨m,hm,rfl⟩:=List.mem_map.1 hm'
   obtain⟨hm,hmi⟩:=iA.1 hm
   have h0:=h.left m hm
   have h2:=h.left n (aj hn).1
   have afv:=(h.Qx hn h1 m.1 hmi).2
   unfold dV at h0 h2 ⊢
   rw[j4,afv]
   rw[hid]at h2
   have e3:(eT id n.2.1 m).2.2=m.2.2:=by unfold eT;split<;>rfl
   rw[e3]
   split<;>omega
 ·unfold eY
  rw[if_neg he]
  exact h
theorem Tree.gU{q:Int}{L:List Nd}(h:Tree q L){id d:Int}(hg:bN (L.map (gU id d)))(hl:∀x,aH id L=some x→d≤aM L id):Tree q (L.map (gU id d)):=by
 obtain⟨u,hu⟩:=h.first
 obtain⟨r,hr⟩:=h.rank
 have at_:∀i x,aH i L=some x→aH i (L.map (Go.Proofs.YtammlljefhakmaaGreatDoor.gU id d))=some (Go.Proofs.YtammlljefhakmaaGreatDoor.gU id d x):=fun i x hx=>by
  rw[bD (iN _ _),hx]
  rfl
 have hup:∀m:Nd,(Go.Proofs.YtammlljefhakmaaGreatDoor.gU id d m).2.1=m.2.1:=fun m=>by unfold Go.Proofs.YtammlljefhakmaaGreatDoor.gU;split<;>rfl
 refine⟨hg,?_,⟨r,fun m' hm' hm1=>?_⟩,fun m' hm'=>?_⟩
 ·by_cases e:(1:Int)=id
  ·exact⟨u+d,by rw[at_ _ _ hu];unfold Go.Proofs.YtammlljefhakmaaGreatDoor.gU;rw[if_pos e]⟩
  ·exact⟨u,by rw[at_ _ _ hu];unfold Go.Proofs.YtammlljefhakmaaGreatDoor.gU;rw[if_neg e]⟩
 ·obtain⟨m,hm,rfl⟩:=List.mem_map.1 hm'
  rw[iN]at hm1 ⊢
  rw[hup]
  obtain⟨⟨x,hx⟩,hl2⟩:=hr m hm hm1
  exact⟨⟨_,at_ _ _ hx⟩,hl2⟩
 ·obtain⟨m,hm,rfl⟩:=List.mem_map.1 hm'
  have h0:=h.left m hm
  unfold dV at h0 ⊢
  rw[iN,xR]
  unfold Go.Proofs.YtammlljefhakmaaGreatDoor.gU
  split
  ·rename_i e
   have:=dW h.good.up hm
   rw[e]at this
   have h3:=hl _ this
   rw[jv this]at h3
   rw[e]at h0 ⊢
   simp only
   omega
  ·exact h0
theorem Tree.mY{q:Int}{L:List Nd}(h:Tree q L)(id n:Int):Tree q (aD L id n):=by
 have hg:=h.good.mY id n
 by_cases he:aX L id n=0
 ·have hcl:aD L id n=L.map (Go.Proofs.YtammlljefhakmaaGreatDoor.gU id n):=by unfold aD;rw[if_pos he]
  rw[hcl]at hg ⊢
  exact h.gU hg fun _ _=>(gL.1 he).2.2
 ·unfold aD
  rw[if_neg he]
  exact h
theorem Tree.aM{q:Int}{L:List Nd}(h:Tree q L)(id:Int):0≤aM L id:=by
 unfold Go.Proofs.YtammlljefhakmaaGreatDoor.aM
 cases e:aH id L with
 |none=>exact Int.le_refl _
 |some x=>exact h.left x (aj e).1
theorem Tree.oJ{q:Int}{L:List Nd}(h:Tree q L)(id n:Int):Tree q (bR L id n):=by
 have hg:=h.good.oJ id n
 by_cases he:fG L id n=0
 ·have hcl:bR L id n=L.map (Go.Proofs.YtammlljefhakmaaGreatDoor.gU id (-n)):=by unfold bR;rw[if_pos he]
  rw[hcl]at hg ⊢
  refine h.gU hg fun _ _=>?_
  have:=(bT.1 (jd.1 he).1).2
  have:=h.aM id
  omega
 ·unfold bR
  rw[if_neg he]
  exact h
end Go.Proofs.YtammlljefhakmaaGreatDoor
