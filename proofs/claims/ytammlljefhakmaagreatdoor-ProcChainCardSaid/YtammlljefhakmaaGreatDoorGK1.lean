/- Helps of the proof. No condition. -/
import Derived.Test.YtammlljefhakmaaGreatDoorGJ
import Derived.Test.YtammlljefhakmaaGreatDoorGD8
namespace Go.Proofs.YtammlljefhakmaaGreatDoor
open Go.RowKit
set_option maxRecDepth 100000
theorem wP:∀(L K:List Nat),L.Pairwise (· < ·)→K.Pairwise (· < ·)→(∀n,n∈L↔n∈K)→L=K
 |[],[],_,_,_=>rfl
 |[],k::s,_,_,h=>absurd ((h k).2 (by simp)) (by simp)
 |n::r,[],_,_,h=>absurd ((h n).1 (by simp)) (by simp)
 | n::r,k::s,hL,hK,h=>by
  obtain⟨l1,l2⟩:=List.pairwise_cons.1 hL
  obtain⟨k1,k2⟩:=List.pairwise_cons.1 hK
  have e:n=k:=by
   rcases List.mem_cons.1 ((h n).1 (by simp))with e|e
   ·exact e
   ·rcases List.mem_cons.1 ((h k).2 (by simp))with e'|e'
    ·exact e'.symm
    ·have:=k1 n e;have:=l1 k e';omega
  subst e
  rw[wP r s l2 k2 fun m=>?_]
  constructor
  ·intro hm
   rcases List.mem_cons.1 ((h m).1 (by simp[hm]))with e|e
   ·have:=l1 m hm;omega
   ·exact e
  ·intro hm
   rcases List.mem_cons.1 ((h m).2 (by simp[hm]))with e|e
   ·have:=k1 m hm;omega
   ·exact e
def upd(R:Nat→Nat)(x v:Nat):Nat→Nat:=fun y=>if y=x then v else R y
theorem upd_same(R:Nat→Nat)(x v:Nat):upd R x v x=v:=by simp[upd]
theorem aB(R:Nat→Nat)(x v y:Nat)(h:y≠x):upd R x v y=R y:=by simp[upd,h]
def bL(p:Nat×Nat)(R:Nat→Nat):List Nat:=(span p.1 p.2).filter fun x=>R x==0
theorem fC(p:Nat×Nat)(R:Nat→Nat)(x:Nat):x∈bL p R↔(p.1≤x∧x<p.1+p.2)∧R x=0:=by
 simp[bL,jo]
theorem pU(p:Nat×Nat)(R:Nat→Nat):(bL p R).Pairwise (· < ·):=(ZU p.1 p.2).filter _
theorem Fu(p:Nat×Nat)(R:Nat→Nat)(h:∀x,p.1≤x→x<p.1+p.2→R x=0):bL p R=span p.1 p.2:=
 List.filter_eq_self.2 fun x hx=>by have:=(jo _ _ _).1 hx;simp[h x this.1 this.2]
theorem BM(p:Nat×Nat)(R Q:Nat→Nat)(h:∀x,p.1≤x→x<p.1+p.2→(R x=0↔Q x=0)):bL p R=bL p Q:=
 wP _ _ (pU p R) (pU p Q) fun x=>by
  rw[fC,fC]
  constructor
  ·rintro⟨h1,h2⟩;exact⟨h1,(h x h1.1 h1.2).1 h2⟩
  ·rintro⟨h1,h2⟩;exact⟨h1,(h x h1.1 h1.2).2 h2⟩
theorem Sb(p:Nat×Nat)(R:Nat→Nat)(x v:Nat)(h:¬(p.1≤x∧x<p.1+p.2)):bL p (upd R x v)=bL p R:=
 BM _ _ _ fun y h1 h2=>by rw[aB _ _ _ _ (fun e=>h (by subst e;exact⟨h1,h2⟩))]
theorem qH(p:Nat×Nat)(R:Nat→Nat)(x v:Nat)(h:R x≠0)(hv:v≠0):bL p (upd R x v)=bL p R:=
 BM _ _ _ fun y _ _=>by
  by_cases e:y=x
  ·subst e;rw[upd_same];simp[h,hv]
  ·rw[aB _ _ _ _ e]
theorem BN(p:Nat×Nat)(R:Nat→Nat)(x v:Nat)(r:List Nat)(h:bL p R=x::r)(hv:v≠0):bL p (upd R x v)=r:=by
 have hx:R x=0:=((fC p R x).1 (by rw[h];simp)).2
 have hup:=pU p R
 rw[h]at hup
 obtain⟨h1,h2⟩:=List.pairwise_cons.1 hup
 refine wP _ _ (pU p _) h2 fun y=>?_
 rw[fC]
 constructor
 ·rintro⟨hy,h0⟩
  by_cases e:y=x
  ·subst e;rw[upd_same]at h0;exact absurd h0 hv
  ·rw[aB _ _ _ _ e]at h0
   have:y∈bL p R:=(fC p R y).2 ⟨hy,h0⟩
   rw[h]at this
   exact(List.mem_cons.1 this).resolve_left e
 ·intro hy
  have hm:y∈bL p R:=by rw[h];simp[hy]
  have:=(fC p R y).1 hm
  have hne:y≠x:=by have:=h1 y hy;omega
  exact⟨this.1,by rw[aB _ _ _ _ hne];exact this.2⟩
theorem BO(p:Nat×Nat)(R:Nat→Nat)(x:Nat)(hx:p.1≤x∧x<p.1+p.2)(h:R x≠0):x∉bL p R∧bL p (upd R x 0)=ins (bL p R) x:=by
 have hn:x∉bL p R:=fun hm=>h ((fC p R x).1 hm).2
 refine⟨hn,wP _ _ (pU p _) (Nw _ _ (pU p R) hn) fun y=>?_⟩
 rw[fC,Ap,fC]
 by_cases e:y=x
 ·subst e;rw[upd_same];simp[hx]
 ·rw[aB _ _ _ _ e];simp[e]
def vY(p:Nat×Nat)(x:Int):Bool:=decide ((p.1:Int)≤x)&&decide (x<(p.1:Int)+(p.2:Int))
theorem mZ(p:Nat×Nat)(x:Int):vY p x=true↔(p.1:Int)≤x∧x<(p.1:Int)+(p.2:Int):=by simp[vY]
def iI(P:List (Nat×Nat))(x:Int):Int×Int:=
 match P.findIdx? (fun p=>vY p x)with
 |some i=>((i:Int),0)
 |none=>(0,2)
theorem pV(P:List (Nat×Nat))(x:Int):(∃i,i<P.length∧iI P x=((i:Int),0)∧vY (P.getD i (0,0)) x=true∧∀j,j<i→vY (P.getD j (0,0)) x=false)∨(iI P x=(0,2)∧∀j,j<P.length→vY (P.getD j (0,0)) x=false):=by
 unfold iI
 cases h:P.findIdx? (fun p=>vY p x)with
 |none=>
  rw[List.findIdx?_eq_none_iff]at h
  exact Or.inr ⟨rfl,fun j hj=>by rw[List.getD_eq_getElem?_getD,List.getElem?_eq_getElem hj];exact h _ (List.getElem_mem hj)⟩
 |some i=>
  rw[List.findIdx?_eq_some_iff_getElem]at h
  obtain⟨hi,h1,h2⟩:=h
  refine Or.inl ⟨i,hi,rfl,by rw[List.getD_eq_getElem?_getD,List.getElem?_eq_getElem hi];exact h1,fun j hj=>?_⟩
  have hjl:j<P.length:=by omega
  rw[List.getD_eq_getElem?_getD,List.getElem?_eq_getElem hjl]
  simpa using h2 j hj
theorem Iq(P:List (Nat×Nat))(x:Int)(i:Nat)(hi:i<P.length)(h1:vY (P.getD i (0,0)) x=true)(h2:∀j,j<i→vY (P.getD j (0,0)) x=false):iI P x=((i:Int),0):=by
 rcases pV P x with⟨j,hj,he,h3,h4⟩|⟨he,h3⟩
 ·have:i=j:=by
   rcases Nat.lt_trichotomy i j with h|h|h
   ·rw[h4 i h]at h1;cases h1
   ·exact h
   ·rw[h2 j h]at h3;cases h3
  subst this;exact he
 ·rw[h3 i hi]at h1;cases h1
theorem Sc(P:List (Nat×Nat))(x:Int)(h:∀j,j<P.length→vY (P.getD j (0,0)) x=false):iI P x=(0,2):=by
 rcases pV P x with⟨j,hj,_,h3,_⟩|⟨he,_⟩
 ·rw[h j hj]at h3;cases h3
 ·exact he
def rT(R:Nat→Nat)(x:Int):Int:=if 0≤x then(R x.toNat:Int)else 0
theorem nP(R:Nat→Nat)(x:Nat):rT R (x:Int)=(R x:Int):=by simp[rT]
structure lC(n:Nat)(P:List (Nat×Nat))(R:Nat→Nat):Prop where
 top:n≤1024
 many:P.length≤8
 rng:∀i,i<P.length→1≤(P.getD i (0,0)).2∧(P.getD i (0,0)).1+(P.getD i (0,0)).2≤n
 apart:∀i j x,i<P.length→j<P.length→vY (P.getD i (0,0)) x=true→vY (P.getD j (0,0)) x=true→i=j
 outs:∀x:Nat,(∀i,i<P.length→vY (P.getD i (0,0)) (x:Int)=false)→R x=0
 most:∀x,R x≤64
theorem lC.upd{n:Nat}{P:List (Nat×Nat)}{R:Nat→Nat}(h:lC n P R)(i x v:Nat)(hi:i<P.length)(hx:vY (P.getD i (0,0)) (x:Int)=true)(hv:v≤64):lC n P (upd R x v):=
 ⟨h.top,h.many,h.rng,h.apart,fun y hy=>by
  by_cases e:y=x
  ·subst e;rw[hy i hi]at hx;cases hx
  ·rw[aB _ _ _ _ e];exact h.outs y hy,fun y=>by
  by_cases e:y=x
  ·subst e;rw[upd_same];exact hv
  ·rw[aB _ _ _ _ e];exact h.most y⟩
theorem lC.nil(n:Nat)(h:n≤1024):lC n [] (fun _=>0):=⟨h,by simp,fun i hi=>by simp at hi,fun i j x hi=>by simp at hi,fun _ _=>rfl,fun _=>by simp⟩
theorem lC.Km{n:Nat}{P:List (Nat×Nat)}{R:Nat→Nat}(h:lC n P R)(i x v:Nat)(hi:i<P.length)(hx:vY (P.getD i (0,0)) (x:Int)=true):∀j,j<P.length→j≠i→bL (P.getD j (0,0)) (Proofs.YtammlljefhakmaaGreatDoor.upd R x v)=bL (P.getD j (0,0)) R:=by
 intro j hj hne
 refine Sb _ _ _ _ fun e=>hne ?_
 exact h.apart j i (x:Int) hj hi ((mZ _ _).2 (by omega)) hx
def gI(P:List (Nat×Nat))(k:Int):Bool:=decide (0≤k)&&decide (k<P.length)
theorem ny(P:List (Nat×Nat))(k:Int):gI P k=true↔0≤k∧k<P.length:=by simp[gI]
def dG(P:List (Nat×Nat))(R:Nat→Nat)(k:Int):Int×Int:=
 if gI P k then(match bL (P.getD k.toNat (0,0)) R with
  |[]=>(0,3)
  |x:: _=>((x:Int),0))else(0,2)
def gy(P:List (Nat×Nat))(R:Nat→Nat)(k:Int):Nat→Nat:=
 if gI P k then(match bL (P.getD k.toNat (0,0)) R with
  |[]=>R
  |x:: _=>upd R x 1)else R
def fO(P:List (Nat×Nat))(R:Nat→Nat)(k:Int)(L:List Int):List Int:=
 if gI P k then(match bL (P.getD k.toNat (0,0)) R with
  |[]=>L
  |x:: _=>putRow L x zeros)else L
def eH(P:List (Nat×Nat))(R:Nat→Nat)(x:Int):Int:=if(iI P x).2=0 then(if rT R x=0 then 4 else 0)else 2
def jI(P:List (Nat×Nat))(R:Nat→Nat)(x:Int):Int:=if eH P R x=0 then(if rT R x=64 then 3 else 0)else eH P R x
def nQ(P:List (Nat×Nat))(R:Nat→Nat)(x:Int):Nat→Nat:=if jI P R x=0 then upd R x.toNat (R x.toNat+1)else R
def l9(P:List (Nat×Nat))(R:Nat→Nat)(x:Int):Nat→Nat:=if eH P R x=0 then upd R x.toNat (R x.toNat-1)else R
def zH(P:List (Nat×Nat))(R:Nat→Nat)(k:Int):Nat:=if gI P k then(bL (P.getD k.toNat (0,0)) R).length else 0
theorem Wn{n:Nat}{P:List (Nat×Nat)}{R:Nat→Nat}(h:lC n P R)(x:Int)(hx:∀j,j<P.length→vY (P.getD j (0,0)) x=false):rT R x=0:=by
 unfold rT
 split
 ·rename_i h0
  rw[h.outs x.toNat (fun i hi=>by rw[show((x.toNat:Nat):Int)=x by omega];exact hx i hi)];rfl
 ·rfl
theorem vI{n:Nat}{P:List (Nat×Nat)}{R:Nat→Nat}(h:lC n P R)(x:Int):
  (iI P x=(0,2)∧eH P R x=2∧rT R x=0)∨
  (∃y i:Nat,x=y∧y<n∧i<P.length∧iI P x=((i:Int),0)∧vY (P.getD i (0,0)) (y:Int)=true∧R y=0∧rT R x=0∧eH P R x=4)∨
  (∃y i:Nat,x=y∧y<n∧i<P.length∧iI P x=((i:Int),0)∧vY (P.getD i (0,0)) (y:Int)=true∧R y≠0∧R y≤64∧rT R x=(R y:Int)∧eH P R x=0):=by
 rcases pV P x with⟨i,hi,he,h1,h2⟩|⟨he,h2⟩
 ·obtain⟨a1,a2⟩:=(mZ _ _).1 h1
  obtain⟨y,rfl⟩:=Int.eq_ofNat_of_zero_le (show 0≤x by omega)
  have hr:=(h.rng i hi).2
  by_cases h0:R y=0
  ·exact Or.inr (Or.inl ⟨y,i,rfl,by omega,hi,he,h1,h0,by rw[nP,h0];rfl,by simp[eH,he,nP,h0]⟩)
  ·exact Or.inr (Or.inr ⟨y,i,rfl,by omega,hi,he,h1,h0,h.most y,nP R y,by simp[eH,he,nP,h0]⟩)
 ·exact Or.inl ⟨he,by simp[eH,he],Wn h x h2⟩
theorem Kn{n:Nat}{P:List (Nat×Nat)}{R:Nat→Nat}{x:Int}(_h:lC n P R)(h:eH P R x≠0):jI P R x=eH P R x∧nQ P R x=R∧l9 P R x=R:=by
 have:jI P R x=eH P R x:=by simp[jI,h]
 exact⟨this,by simp[nQ,this,h],by simp[l9,h]⟩
end Go.Proofs.YtammlljefhakmaaGreatDoor
