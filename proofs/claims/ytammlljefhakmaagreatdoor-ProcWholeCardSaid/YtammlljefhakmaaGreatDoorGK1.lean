/- Helps of the proof. No condition. -/
import Derived.Test.YtammlljefhakmaaGreatDoorGJ
import Derived.Test.YtammlljefhakmaaGreatDoorGD8
namespace Go.Proofs.YtammlljefhakmaaGreatDoor
open Go.RowKit
set_option maxRecDepth 100000
theorem wS:∀(L K:List Nat),L.Pairwise (· < ·)→K.Pairwise (· < ·)→(∀n,n∈L↔n∈K)→L=K
 |[],[],_,_,_=>rfl
 |[],k::s,_,_,h=>absurd ((h k).2 (by simp)) (by simp)
 |n::r,[],_,_,h=>absurd ((h n).1 (by simp)) (by simp)
 | n::r,k::s,hL,hK,h=>by
  obtain⟨l1,l2⟩:=List.pairwise_cons.1 hL
  obtain⟨k1,k2⟩:=List.pairwise_cons.1 hK
  have e:n=k:=by
   rcases List.mem_cons.1 ((h n).1 (by simp))with e|e
   ·exact e
   ·rcases List.mem_cons.1 ((h k).2 (by simp))with e'|e'
    ·exact e'.symm
    ·have:=k1 n e;have:=l1 k e';omega
  subst e
  rw[wS r s l2 k2 fun m=>?_]
  constructor
  ·intro hm
   rcases List.mem_cons.1 ((h m).1 (by simp[hm]))with e|e
   ·have:=l1 m hm;omega
   ·exact e
  ·intro hm
   rcases List.mem_cons.1 ((h m).2 (by simp[hm]))with e|e
   ·have:=k1 m hm;omega
   ·exact e
def upd(R:Nat→Nat)(x v:Nat):Nat→Nat:=fun y=>if y=x then v else R y
theorem upd_same(R:Nat→Nat)(x v:Nat):upd R x v x=v:=by simp[upd]
theorem aC(R:Nat→Nat)(x v y:Nat)(h:y≠x):upd R x v y=R y:=by simp[upd,h]
def bN(p:Nat×Nat)(R:Nat→Nat):List Nat:=(span p.1 p.2).filter fun x=>R x==0
theorem fC(p:Nat×Nat)(R:Nat→Nat)(x:Nat):x∈bN p R↔(p.1≤x∧x<p.1+p.2)∧R x=0:=by
 simp[bN,l6]
theorem pX(p:Nat×Nat)(R:Nat→Nat):(bN p R).Pairwise (· < ·):=(Zf p.1 p.2).filter _
theorem EU(p:Nat×Nat)(R:Nat→Nat)(h:∀x,p.1≤x→x<p.1+p.2→R x=0):bN p R=span p.1 p.2:=
 List.filter_eq_self.2 fun x hx=>by have:=(l6 _ _ _).1 hx;simp[h x this.1 this.2]
theorem Bu(p:Nat×Nat)(R Q:Nat→Nat)(h:∀x,p.1≤x→x<p.1+p.2→(R x=0↔Q x=0)):bN p R=bN p Q:=
 wS _ _ (pX p R) (pX p Q) fun x=>by
  rw[fC,fC]
  constructor
  ·rintro⟨h1,h2⟩;exact⟨h1,(h x h1.1 h1.2).1 h2⟩
  ·rintro⟨h1,h2⟩;exact⟨h1,(h x h1.1 h1.2).2 h2⟩
theorem Ra(p:Nat×Nat)(R:Nat→Nat)(x v:Nat)(h:¬(p.1≤x∧x<p.1+p.2)):bN p (upd R x v)=bN p R:=
 Bu _ _ _ fun y h1 h2=>by rw[aC _ _ _ _ (fun e=>h (by subst e;exact⟨h1,h2⟩))]
theorem qH(p:Nat×Nat)(R:Nat→Nat)(x v:Nat)(h:R x≠0)(hv:v≠0):bN p (upd R x v)=bN p R:=
 Bu _ _ _ fun y _ _=>by
  by_cases e:y=x
  ·subst e;rw[upd_same];simp[h,hv]
  ·rw[aC _ _ _ _ e]
theorem Bv(p:Nat×Nat)(R:Nat→Nat)(x v:Nat)(r:List Nat)(h:bN p R=x::r)(hv:v≠0):bN p (upd R x v)=r:=by
 have hx:R x=0:=((fC p R x).1 (by rw[h];simp)).2
 have hup:=pX p R
 rw[h]at hup
 obtain⟨h1,h2⟩:=List.pairwise_cons.1 hup
 refine wS _ _ (pX p _) h2 fun y=>?_
 rw[fC]
 constructor
 ·rintro⟨hy,h0⟩
  by_cases e:y=x
  ·subst e;rw[upd_same]at h0;exact absurd h0 hv
  ·rw[aC _ _ _ _ e]at h0
   have:y∈bN p R:=(fC p R y).2 ⟨hy,h0⟩
   rw[h]at this
   exact(List.mem_cons.1 this).resolve_left e
 ·intro hy
  have hm:y∈bN p R:=by rw[h];simp[hy]
  have:=(fC p R y).1 hm
  have hne:y≠x:=by have:=h1 y hy;omega
  exact⟨this.1,by rw[aC _ _ _ _ hne];exact this.2⟩
theorem Bw(p:Nat×Nat)(R:Nat→Nat)(x:Nat)(hx:p.1≤x∧x<p.1+p.2)(h:R x≠0):x∉bN p R∧bN p (upd R x 0)=ins (bN p R) x:=by
 have hn:x∉bN p R:=fun hm=>h ((fC p R x).1 hm).2
 refine⟨hn,wS _ _ (pX p _) (Nf _ _ (pX p R) hn) fun y=>?_⟩
 rw[fC,Ad,fC]
 by_cases e:y=x
 ·subst e;rw[upd_same];simp[hx]
 ·rw[aC _ _ _ _ e];simp[e]
def vY(p:Nat×Nat)(x:Int):Bool:=decide ((p.1:Int)≤x)&&decide (x<(p.1:Int)+(p.2:Int))
theorem mX(p:Nat×Nat)(x:Int):vY p x=true↔(p.1:Int)≤x∧x<(p.1:Int)+(p.2:Int):=by simp[vY]
def iQ(P:List (Nat×Nat))(x:Int):Int×Int:=
 match P.findIdx? (fun p=>vY p x)with
 |some i=>((i:Int),0)
 |none=>(0,2)
theorem pY(P:List (Nat×Nat))(x:Int):(∃i,i<P.length∧iQ P x=((i:Int),0)∧vY (P.getD i (0,0)) x=true∧∀j,j<i→vY (P.getD j (0,0)) x=false)∨(iQ P x=(0,2)∧∀j,j<P.length→vY (P.getD j (0,0)) x=false):=by
 unfold iQ
 cases h:P.findIdx? (fun p=>vY p x)with
 |none=>
  rw[List.findIdx?_eq_none_iff]at h
  exact Or.inr ⟨rfl,fun j hj=>by rw[List.getD_eq_getElem?_getD,List.getElem?_eq_getElem hj];exact h _ (List.getElem_mem hj)⟩
 |some i=>
  rw[List.findIdx?_eq_some_iff_getElem]at h
  obtain⟨hi,h1,h2⟩:=h
  refine Or.inl ⟨i,hi,rfl,by rw[List.getD_eq_getElem?_getD,List.getElem?_eq_getElem hi];exact h1,fun j hj=>?_⟩
  have hjl:j<P.length:=by omega
  rw[List.getD_eq_getElem?_getD,List.getElem?_eq_getElem hjl]
  simpa using h2 j hj
theorem Ia(P:List (Nat×Nat))(x:Int)(i:Nat)(hi:i<P.length)(h1:vY (P.getD i (0,0)) x=true)(h2:∀j,j<i→vY (P.getD j (0,0)) x=false):iQ P x=((i:Int),0):=by
 rcases pY P x with⟨j,hj,he,h3,h4⟩|⟨he,h3⟩
 ·have:i=j:=by
   rcases Nat.lt_trichotomy i j with h|h|h
   ·rw[h4 i h]at h1;cases h1
   ·exact h
   ·rw[h2 j h]at h3;cases h3
  subst this;exact he
 ·rw[h3 i hi]at h1;cases h1
theorem Rb(P:List (Nat×Nat))(x:Int)(h:∀j,j<P.length→vY (P.getD j (0,0)) x=false):iQ P x=(0,2):=by
 rcases pY P x with⟨j,hj,_,h3,_⟩|⟨he,_⟩
 ·rw[h j hj]at h3;cases h3
 ·exact he
def rM(R:Nat→Nat)(x:Int):Int:=if 0≤x then(R x.toNat:Int)else 0
theorem nP(R:Nat→Nat)(x:Nat):rM R (x:Int)=(R x:Int):=by simp[rM]
structure lD(n:Nat)(P:List (Nat×Nat))(R:Nat→Nat):Prop where
 top:n≤1024
 many:P.length≤8
 rng:∀i,i<P.length→1≤(P.getD i (0,0)).2∧(P.getD i (0,0)).1+(P.getD i (0,0)).2≤n
 apart:∀i j x,i<P.length→j<P.length→vY (P.getD i (0,0)) x=true→vY (P.getD j (0,0)) x=true→i=j
 outs:∀x:Nat,(∀i,i<P.length→vY (P.getD i (0,0)) (x:Int)=false)→R x=0
 most:∀x,R x≤64
theorem lD.upd{n:Nat}{P:List (Nat×Nat)}{R:Nat→Nat}(h:lD n P R)(i x v:Nat)(hi:i<P.length)(hx:vY (P.getD i (0,0)) (x:Int)=true)(hv:v≤64):lD n P (upd R x v):=
 ⟨h.top,h.many,h.rng,h.apart,fun y hy=>by
  by_cases e:y=x
  ·subst e;rw[hy i hi]at hx;cases hx
  ·rw[aC _ _ _ _ e];exact h.outs y hy,fun y=>by
  by_cases e:y=x
  ·subst e;rw[upd_same];exact hv
  ·rw[aC _ _ _ _ e];exact h.most y⟩
theorem lD.nil(n:Nat)(h:n≤1024):lD n [] (fun _=>0):=⟨h,by simp,fun i hi=>by simp at hi,fun i j x hi=>by simp at hi,fun _ _=>rfl,fun _=>by simp⟩
theorem lD.J8{n:Nat}{P:List (Nat×Nat)}{R:Nat→Nat}(h:lD n P R)(i x v:Nat)(hi:i<P.length)(hx:vY (P.getD i (0,0)) (x:Int)=true):∀j,j<P.length→j≠i→bN (P.getD j (0,0)) (Proofs.YtammlljefhakmaaGreatDoor.upd R x v)=bN (P.getD j (0,0)) R:=by
 intro j hj hne
 refine Ra _ _ _ _ fun e=>hne ?_
 exact h.apart j i (x:Int) hj hi ((mX _ _).2 (by omega)) hx
def iG(P:List (Nat×Nat))(k:Int):Bool:=decide (0≤k)&&decide (k<P.length)
theorem nk(P:List (Nat×Nat))(k:Int):iG P k=true↔0≤k∧k<P.length:=by simp[iG]
def dG(P:List (Nat×Nat))(R:Nat→Nat)(k:Int):Int×Int:=
 if iG P k then(match bN (P.getD k.toNat (0,0)) R with
  |[]=>(0,3)
  |x:: _=>((x:Int),0))else(0,2)
def gq(P:List (Nat×Nat))(R:Nat→Nat)(k:Int):Nat→Nat:=
 if iG P k then(match bN (P.getD k.toNat (0,0)) R with
  |[]=>R
  |x:: _=>upd R x 1)else R
def fO(P:List (Nat×Nat))(R:Nat→Nat)(k:Int)(L:List Int):List Int:=
 if iG P k then(match bN (P.getD k.toNat (0,0)) R with
  |[]=>L
  |x:: _=>putRow L x zeros)else L
def eX(P:List (Nat×Nat))(R:Nat→Nat)(x:Int):Int:=if(iQ P x).2=0 then(if rM R x=0 then 4 else 0)else 2
def jH(P:List (Nat×Nat))(R:Nat→Nat)(x:Int):Int:=if eX P R x=0 then(if rM R x=64 then 3 else 0)else eX P R x
def nQ(P:List (Nat×Nat))(R:Nat→Nat)(x:Int):Nat→Nat:=if jH P R x=0 then upd R x.toNat (R x.toNat+1)else R
def l7(P:List (Nat×Nat))(R:Nat→Nat)(x:Int):Nat→Nat:=if eX P R x=0 then upd R x.toNat (R x.toNat-1)else R
def zy(P:List (Nat×Nat))(R:Nat→Nat)(k:Int):Nat:=if iG P k then(bN (P.getD k.toNat (0,0)) R).length else 0
theorem Vr{n:Nat}{P:List (Nat×Nat)}{R:Nat→Nat}(h:lD n P R)(x:Int)(hx:∀j,j<P.length→vY (P.getD j (0,0)) x=false):rM R x=0:=by
 unfold rM
 split
 ·rename_i h0
  rw[h.outs x.toNat (fun i hi=>by rw[show((x.toNat:Nat):Int)=x by omega];exact hx i hi)];rfl
 ·rfl
theorem vG{n:Nat}{P:List (Nat×Nat)}{R:Nat→Nat}(h:lD n P R)(x:Int):
  (iQ P x=(0,2)∧eX P R x=2∧rM R x=0)∨
  (∃y i:Nat,x=y∧y<n∧i<P.length∧iQ P x=((i:Int),0)∧vY (P.getD i (0,0)) (y:Int)=true∧R y=0∧rM R x=0∧eX P R x=4)∨
  (∃y i:Nat,x=y∧y<n∧i<P.length∧iQ P x=((i:Int),0)∧vY (P.getD i (0,0)) (y:Int)=true∧R y≠0∧R y≤64∧rM R x=(R y:Int)∧eX P R x=0):=by
 rcases pY P x with⟨i,hi,he,h1,h2⟩|⟨he,h2⟩
 ·obtain⟨a1,a2⟩:=(mX _ _).1 h1
  obtain⟨y,rfl⟩:=Int.eq_ofNat_of_zero_le (show 0≤x by omega)
  have hr:=(h.rng i hi).2
  by_cases h0:R y=0
  ·exact Or.inr (Or.inl ⟨y,i,rfl,by omega,hi,he,h1,h0,by rw[nP,h0];rfl,by simp[eX,he,nP,h0]⟩)
  ·exact Or.inr (Or.inr ⟨y,i,rfl,by omega,hi,he,h1,h0,h.most y,nP R y,by simp[eX,he,nP,h0]⟩)
 ·exact Or.inl ⟨he,by simp[eX,he],Vr h x h2⟩
theorem J9{n:Nat}{P:List (Nat×Nat)}{R:Nat→Nat}{x:Int}(_h:lD n P R)(h:eX P R x≠0):jH P R x=eX P R x∧nQ P R x=R∧l7 P R x=R:=by
 have:jH P R x=eX P R x:=by simp[jH,h]
 exact⟨this,by simp[nQ,this,h],by simp[l7,h]⟩
end Go.Proofs.YtammlljefhakmaaGreatDoor
