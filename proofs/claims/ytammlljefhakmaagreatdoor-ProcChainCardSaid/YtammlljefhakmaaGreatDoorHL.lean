/- Helps of the proof. No condition. -/
import Derived.Test.YtammlljefhakmaaGreatDoorHK
import Derived.Test.YtammlljefhakmaaGreatDoorHC
namespace Go.Proofs.YtammlljefhakmaaGreatDoor
set_option maxRecDepth 100000
section
def iO(f:Int→Nat):Nat:=f 1+f 2+f 3+f 4+f 5+f 6+f 7+f 8
theorem ads{i:Int}(h:1≤i∧i≤8):i=1∨i=2∨i=3∨i=4∨i=5∨i=6∨i=7∨i=8:=by omega
theorem wV{f g:Int→Nat}{i:Int}(hi:1≤i∧i≤8)(h:∀j,j≠i→g j=f j):iO g+f i=iO f+g i:=by
 unfold iO
 rcases ads hi with rfl|rfl|rfl|rfl|rfl|rfl|rfl|rfl
 ·rw[h 2 (by decide),h 3 (by decide),h 4 (by decide),h 5 (by decide),h 6 (by decide),h 7 (by decide),h 8 (by decide)];omega
 ·rw[h 1 (by decide),h 3 (by decide),h 4 (by decide),h 5 (by decide),h 6 (by decide),h 7 (by decide),h 8 (by decide)];omega
 ·rw[h 1 (by decide),h 2 (by decide),h 4 (by decide),h 5 (by decide),h 6 (by decide),h 7 (by decide),h 8 (by decide)];omega
 ·rw[h 1 (by decide),h 2 (by decide),h 3 (by decide),h 5 (by decide),h 6 (by decide),h 7 (by decide),h 8 (by decide)];omega
 ·rw[h 1 (by decide),h 2 (by decide),h 3 (by decide),h 4 (by decide),h 6 (by decide),h 7 (by decide),h 8 (by decide)];omega
 ·rw[h 1 (by decide),h 2 (by decide),h 3 (by decide),h 4 (by decide),h 5 (by decide),h 7 (by decide),h 8 (by decide)];omega
 ·rw[h 1 (by decide),h 2 (by decide),h 3 (by decide),h 4 (by decide),h 5 (by decide),h 6 (by decide),h 8 (by decide)];omega
 ·rw[h 1 (by decide),h 2 (by decide),h 3 (by decide),h 4 (by decide),h 5 (by decide),h 6 (by decide),h 7 (by decide)];omega
theorem vU{f g:Int→Nat}(h:∀j,1≤j∧j≤8→g j=f j):iO g=iO f:=by
 unfold iO
 rw[h 1 (by decide),h 2 (by decide),h 3 (by decide),h 4 (by decide),h 5 (by decide),h 6 (by decide),h 7 (by decide),h 8 (by decide)]
theorem KY(f g:Int→Nat):iO (fun i=>f i+g i)=iO f+iO g:=by simp only[iO];omega
theorem IK(f:Int→Nat){i:Int}(hi:1≤i∧i≤8):f i≤iO f:=by
 unfold iO
 rcases ads hi with rfl|rfl|rfl|rfl|rfl|rfl|rfl|rfl<;>omega
theorem SX{f:Int→Nat}(h:∀j,1≤j∧j≤8→f j=0):iO f=0:=by
 rw[vU (f:=fun _=>0) h];rfl
def rU(b:Nat→Bool)(k:Nat):Nat:=((List.range k).filter b).length
theorem qg(b:Nat→Bool)(k:Nat):rU b (k+1)=rU b k+(if b k=true then 1 else 0):=by
 unfold rU
 rw[List.range_succ,List.filter_append,List.length_append]
 cases h:b k<;>simp[h]
theorem qO{b d:Nat→Bool}:∀{k:Nat},(∀y,y<k→d y=b y)→rU d k=rU b k
 |0,_=>rfl
 |k+1,h=>by rw[qg,qg,qO (k:=k) (fun y hy=>h y (by omega)),h k (by omega)]
theorem tC{b d:Nat→Bool}{x:Nat}(h:∀y,y≠x→d y=b y):∀{k:Nat},x<k→rU d k+(if b x=true then 1 else 0)=rU b k+(if d x=true then 1 else 0)
 | k+1,hx=>by
  rw[qg,qg]
  by_cases e:x=k
  ·subst e;rw[qO (b:=b) (fun y hy=>h y (by omega))];omega
  ·rw[h k (by omega)]
   have:=tC h (k:=k) (by omega)
   omega
theorem qh{b:Nat→Bool}:∀{k:Nat},(∀y,y<k→b y=false)→rU b k=0
 |0,_=>rfl
 |k+1,h=>by rw[qg,qh (k:=k) (fun y hy=>h y (by omega)),h k (by omega)];rfl
def Ae(F:Sp):Nat:=rU (fun p=>(F p).1) 1024
def cO(F:Sp):Nat:=vP F+Ae F
def fI:Option Sp→Nat
 |none=>0
 |some F=>cO F
def qP:Sp:=fun _=>z0
theorem yF{F:Sp}{i:Nat}(h:∀j,j<32→(F (32*i+j)).1=false):hasB F i=false:=by
 cases hh:hasB F i with
 |false=>rfl
 |true=>
  obtain⟨j,hj,hp⟩:=(jv _ _).1 hh
  rw[h j hj]at hp;cases hp
theorem KZ:cO qP=1:=by
 unfold cO vP Ae
 rw[show((List.range 32).filter (hasB qP)).length=rU (hasB qP) 32 from rfl,qh (b:=hasB qP) (fun y _=>yF fun _ _=>rfl),qh (b:=fun p=>(qP p).1) (fun y _=>rfl)]
theorem Xi(F:Sp):1≤cO F:=by unfold cO vP;omega
def newT(F:Sp)(p:Nat):Nat:=if hasB F (p/32)=true then 0 else 1
theorem uH{F:Sp}{p:Nat}{e:fQ}(hp:p<1024)(hF:(F p).1=false)(he:e.1=true):cO (aI F p e)=cO F+1+newT F p:=by
 have h1:=tC (b:=hasB F) (d:=hasB (aI F p e)) (x:=p/32) (fun y hy=>nX F p e y hy) (k:=32) (by omega)
 have h2:=tC (b:=fun q=>(F q).1) (d:=fun q=>(aI F p e q).1) (x:=p) (fun y hy=>by rw[aA _ _ _ _ hy]) (k:=1024) hp
 rw[if_pos (wS F p e he)]at h1
 simp only[aC,hF,he,if_true]at h2
 unfold cO vP Ae newT
 rw[show((List.range 32).filter (hasB F)).length=rU (hasB F) 32 from rfl,show((List.range 32).filter (hasB (aI F p e))).length=rU (hasB (aI F p e)) 32 from rfl]
 simp only[Bool.false_eq_true,if_false]at h2
 split at h1
 ·rename_i hh;rw[if_pos hh];omega
 ·rename_i hh;rw[if_neg hh];omega
theorem uI(F:Sp)(p:Nat)(e d:fQ):aI (aI F p e) p d=aI F p d:=by
 funext q;unfold aI;split<;>rfl
theorem S9(F:Sp)(p:Nat):aI F p (F p)=F:=by
 funext q;unfold aI;split
 ·rename_i h;rw[h]
 ·rfl
theorem zP{F:Sp}{p:Nat}(hp:p<1024)(hF:(F p).1=true):cO F=cO (aI F p z0)+1+newT (aI F p z0) p:=by
 have:=uH (F:=aI F p z0) (e:=F p) hp (by rw[aC];rfl) hF
 rwa [uI,S9]at this
theorem Ta{F:Sp}{p:Nat}{e:fQ}(hp:p<1024)(hF:(F p).1=true)(he:e.1=true):cO (aI F p e)=cO F:=by
 have h1:=zP hp hF
 have h2:=uH (F:=aI F p z0) (e:=e) hp (by rw[aC];rfl) he
 rw[uI]at h2
 omega
def Eo(F:Sp)(f:Nat):Bool:=(List.range 1024).any fun p=>(F p).1&&decide ((F p).2.2.2=(f:Int))
theorem dN(F:Sp)(f:Nat):Eo F f=true↔∃p,p<1024∧(F p).1=true∧(F p).2.2.2=(f:Int):=by
 simp[Eo]
def eO:Option Sp→Nat→Bool
 |none,_=>false
 |some F,f=>Eo F f
def b1(b:Bool):Nat:=if b=true then 1 else 0
def Qh(Q:Nat→Nat):Nat→Nat
 |0=>0
 |k+1=>Qh Q k+(Q k-1)
theorem Gc{Q R:Nat→Nat}:∀{k:Nat},(∀y,y<k→R y=Q y)→Qh R k=Qh Q k
 |0,_=>rfl
 |k+1,h=>by rw[Qh,Qh,Gc (k:=k) (fun y hy=>h y (by omega)),h k (by omega)]
theorem Ay(Q:Nat→Nat)(x v:Nat):∀{k:Nat},x<k→Qh (upd Q x v) k+(Q x-1)=Qh Q k+(v-1)
 | k+1,hx=>by
  rw[Qh,Qh]
  by_cases e:x=k
  ·subst e;rw[Gc (Q:=Q) (fun y hy=>aB _ _ _ _ (by omega)),upd_same];omega
  ·rw[aB _ _ _ _ (fun e2=>e e2.symm)]
   have:=Ay Q x v (k:=k) (by omega)
   omega
theorem Cv{Q:Nat→Nat}:∀{k:Nat},(∀y,y<k→Q y=0)→Qh Q k=0
 |0,_=>rfl
 |k+1,h=>by rw[Qh,Cv (k:=k) (fun y hy=>h y (by omega)),h k (by omega)]
def aZ(L:List Nd)(i:Int):Nat:=match aD i L with
 |none=>0
 |some n=>n.2.2.2.toNat
theorem Gd:∀{L:List Nd},L.Pairwise (fun a b=>a.1<b.1)→(∀n∈L,MR n)→(iO (aZ L):Int)=kg (fun n=>n.2.2.2) L
 |[],_,_=>rfl
 | n::r,hp,ho=>by
  obtain⟨h1,h2⟩:=List.pairwise_cons.1 hp
  have ih:=Gd h2 (fun x hx=>ho x (List.mem_cons_of_mem _ hx))
  have hn:=ho n (by simp)
  have hno:aD n.1 r=none:=dZ.2 fun x hx=>by have:=h1 x hx;omega
  have hu:=wV (f:=aZ r) (g:=aZ (n::r)) (i:=n.1) hn.1 (fun j hj=>by unfold aZ;rw[aD,if_neg (fun e=>hj e.symm)])
  have e1:aZ r n.1=0:=by unfold aZ;rw[hno]
  have e2:(aZ (n::r) n.1:Int)=n.2.2.2:=by
   unfold aZ;rw[aD,if_pos rfl];simp only;omega
  rw[kg,←ih]
  omega
theorem Gf{q:Int}{L:List Nd}(h:Tree q L)(i:Int):(iO (aZ L):Int)+aS L i≤q:=by
 rw[Gd h.good.up h.good.ok,←h.total,Cu]
 have hnn:∀n∈L,0≤eZ L n:=h.left
 have key:∀(K:List Nd),(∀n∈K,0≤eZ L n)→0≤kg (eZ L) K∧∀n∈K,eZ L n≤kg (eZ L) K:=by
  intro K
  induction K with
  |nil=>intro _;exact⟨by simp[kg],by simp⟩
  |cons x r ih=>
   intro hk
   obtain⟨a,b⟩:=ih (fun n hn=>hk n (List.mem_cons_of_mem _ hn))
   have:=hk x (by simp)
   rw[kg]
   refine⟨by omega,fun n hn=>?_⟩
   rcases List.mem_cons.1 hn with rfl|hn
   ·omega
   ·have:=b n hn;omega
 have hk:=key L hnn
 unfold aS
 cases e:aD i L with
 |none=>simp only[OI];omega
 |some n=>
  have:=hk.2 n (aj e).1
  simp only[OI]
  omega
theorem Gg{L:List Nd}(id up q i:Int):aZ (dx L id up q) i=aZ L i:=by
 unfold dx
 split
 ·rename_i h0
  obtain⟨_,_,hno,_⟩:=jO.1 h0
  unfold aZ
  rw[ji (dZ.1 hno)]
  by_cases e:i=id
  ·rw[if_pos e,e,hno];rfl
  ·rw[if_neg e]
 ·rfl
theorem La{L:List Nd}{id:Int}{k:Nat}(h:aX L id (k:Int)=0)(hg:bR L)(i:Int):aZ (aF L id (k:Int)) i=aZ L i+(if i=id then k else 0):=by
 unfold aF
 rw[if_pos h]
 obtain⟨_,⟨x,hx⟩,_⟩:=fK.1 h
 unfold aZ
 rw[bC (iV id _)]
 have hok:=hg.ok x (aj hx).1
 by_cases e:i=id
 ·subst e
  rw[hx,if_pos rfl]
  simp only[Option.map_some,gW,(aj hx).2,if_true]
  unfold MR at hok
  omega
 ·rw[if_neg e]
  cases ha:aD i L with
  |none=>rfl
  |some y=>
   have:=(aj ha).2
   simp only[Option.map_some,gW,this,if_neg e];rfl
theorem Lc{L:List Nd}{id:Int}{k:Nat}(h:fH L id (k:Int)=0)(i:Int):aZ (bI L id (k:Int)) i+(if i=id then k else 0)=aZ L i:=by
 unfold bI
 rw[if_pos h]
 obtain⟨_,x,hx,hk⟩:=jk.1 h
 unfold aZ
 rw[bC (iV id _)]
 by_cases e:i=id
 ·subst e
  rw[hx,if_pos rfl]
  simp only[Option.map_some,gW,(aj hx).2,if_true]
  omega
 ·rw[if_neg e]
  cases ha:aD i L with
  |none=>rfl
  |some y=>
   have:=(aj ha).2
   simp only[Option.map_some,gW,this,if_neg e];rfl
def aV(D:Int→Option Sp)(i:Int)(v:Option Sp):Int→Option Sp:=fun j=>if j=i then v else D j
theorem aR(D:Int→Option Sp)(i:Int)(v:Option Sp):aV D i v i=v:=by simp[aV]
theorem aJ(D:Int→Option Sp)(i:Int)(v:Option Sp){j:Int}(h:j≠i):aV D i v j=D j:=by simp[aV,h]
def yG(ow:Int→Nat)(i:Int)(v:Nat):Int→Nat:=fun j=>if j=i then ow j+v else ow j
def Af(ow:Int→Nat)(i:Int)(v:Nat):Int→Nat:=fun j=>if j=i then ow j-v else ow j
structure J(n q c:Nat)(D:Int→Option Sp)(Q:Nat→Nat)(Lb:List Nd)(ow:Int→Nat)(P:Int→Nat→Option Bool):Prop where
 pid:∀i F,D i=some F→1≤i∧i≤8
 fit:∀i F p,D i=some F→F p=z0∨mU n (F p)
 one:∀i j F K p r,D i=some F→D j=some K→p<1024→r<1024→(F p).1=true→(K r).1=true→(F p).2.2.2=(K r).2.2.2→p=r
 cnt:∀f:Nat,Q f=iO fun i=>b1 (eO (D i) f)
 perm:∀i F p,D i=some F→p<1024→(F p).1=true→P i p=some ((F p).2.1||(F p).2.2.1)
 excl:∀i F p,D i=some F→p<1024→(F p).1=true→(F p).2.1=true→Q (F p).2.2.2.toNat=1
 ko:∀i,aZ Lb i=fI (D i)+ow i
 tree:Tree (q:Int) Lb
 sum:q+Qh Q 1024=c+iO fun i=>fI (D i)
 low:n≤1024
theorem J.room{n q c:Nat}{D:Int→Option Sp}{Q:Nat→Nat}{Lb:List Nd}{ow:Int→Nat}{P:Int→Nat→Option Bool}(h:J n q c D Q Lb ow P)(i:Int):(iO ow:Int)+aS Lb i≤c:=by
 have h1:=Gf h.tree i
 have h2:iO (aZ Lb)=iO (fun i=>fI (D i))+iO ow:=by rw[←KY];exact vU fun j _=>h.ko j
 have h3:=h.sum
 omega
theorem J.out{n q c:Nat}{D:Int→Option Sp}{Q:Nat→Nat}{Lb:List Nd}{ow:Int→Nat}{P:Int→Nat→Option Bool}(h:J n q c D Q Lb ow P){i:Int}(hi:¬(1≤i∧i≤8)):ow i=0:=by
 have h1:=h.ko i
 have h2:aD i Lb=none:=dZ.2 fun x hx e=>hi (by rw[←e];exact(h.tree.good.ok x hx).1)
 unfold aZ at h1
 rw[h2]at h1
 simp only at h1
 omega
theorem J.ow1{n q c:Nat}{D:Int→Option Sp}{Q:Nat→Nat}{Lb:List Nd}{ow:Int→Nat}{P:Int→Nat→Option Bool}(h:J n q c D Q Lb ow P)(i:Int):ow i≤c:=by
 by_cases hi:1≤i∧i≤8
 ·have h1:=h.room i
  have h2:=IK ow hi
  have h3:=h.tree.aS i
  omega
 ·rw[h.out hi];omega
theorem J.held{n q c:Nat}{D:Int→Option Sp}{Q:Nat→Nat}{Lb:List Nd}{ow:Int→Nat}{P:Int→Nat→Option Bool}(h:J n q c D Q Lb ow P){i:Int}{F:Sp}{p:Nat}(hi:D i=some F)(hp:p<1024)(hF:(F p).1=true):∃f:Nat,(F p).2.2.2=(f:Int)∧f<n∧Q f≠0∧mU n (F p):=by
 rcases h.fit i F p hi with e|e
 ·rw[e]at hF;cases hF
 ·obtain⟨h1,h2,h3⟩:=e
  have h4:=(Ao h3).1
  refine⟨(F p).2.2.2.toNat,by omega,by omega,?_,h1,h2,h3⟩
  rw[h.cnt]
  have:=IK (fun i=>b1 (eO (D i) (F p).2.2.2.toNat)) (h.pid i F hi)
  have h5:eO (D i) (F p).2.2.2.toNat=true:=by
   rw[hi];exact(dN _ _).2 ⟨p,hp,hF,by omega⟩
  simp only[h5]at this
  have e1:b1 true=1:=rfl
  omega
theorem J.most{n q c:Nat}{D:Int→Option Sp}{Q:Nat→Nat}{Lb:List Nd}{ow:Int→Nat}{P:Int→Nat→Option Bool}(h:J n q c D Q Lb ow P)(f:Nat):Q f≤8:=by
 rw[h.cnt]
 have:∀b:Bool,b1 b≤1:=by intro b;cases b<;>simp[b1]
 simp only[iO]
 have:=this (eO (D 1) f);have:= ‹∀b:Bool,b1 b≤1› (eO (D 2) f);have:= ‹∀b:Bool,b1 b≤1› (eO (D 3) f);have:= ‹∀b:Bool,b1 b≤1› (eO (D 4) f);have:= ‹∀b:Bool,b1 b≤1› (eO (D 5) f);have:= ‹∀b:Bool,b1 b≤1› (eO (D 6) f);have:= ‹∀b:Bool,b1 b≤1› (eO (D 7) f);have:= ‹∀b:Bool,b1 b≤1› (eO (D 8) f)
 omega
theorem kN{F:Sp}{p:Nat}{e:fQ}{f:Nat}(h1:¬((F p).1=true∧(F p).2.2.2=(f:Int)))(h2:¬(e.1=true∧e.2.2.2=(f:Int))):Eo (aI F p e) f=Eo F f:=by
 rw[Bool.eq_iff_iff,dN,dN]
 constructor
 ·rintro⟨r,hr,a,b⟩
  by_cases er:r=p
  ·subst er;rw[aC]at a b;exact absurd ⟨a,b⟩ h2
  ·rw[aA _ _ _ _ er]at a b;exact⟨r,hr,a,b⟩
 ·rintro⟨r,hr,a,b⟩
  by_cases er:r=p
  ·subst er;exact absurd ⟨a,b⟩ h1
  ·exact⟨r,hr,by rw[aA _ _ _ _ er];exact a,by rw[aA _ _ _ _ er];exact b⟩
theorem tF{F:Sp}{p:Nat}{e:fQ}{f:Nat}(hp:p<1024)(h2:e.1=true∧e.2.2.2=(f:Int)):Eo (aI F p e) f=true:=
 (dN _ _).2 ⟨p,hp,by rw[aC];exact h2.1,by rw[aC];exact h2.2⟩
section
variable {n q c:Nat} {D:Int→Option Sp} {Q:Nat→Nat} {Lb:List Nd} {ow:Int→Nat} {P:Int→Nat→Option Bool}
theorem uJ(h:∀f:Nat,Q f=iO fun i=>b1 (eO (D i) f)){i:Int}(hi:1≤i∧i≤8)(v:Option Sp)(f:Nat):(iO fun j=>b1 (eO (aV D i v j) f))+b1 (eO (D i) f)=Q f+b1 (eO v f):=by
 have:=wV (f:=fun j=>b1 (eO (D j) f)) (g:=fun j=>b1 (eO (aV D i v j) f)) hi (fun j hj=>by simp only[aJ D i v hj])
 simp only[aR]at this
 rw[h f]
 omega
theorem uK{i:Int}(hi:1≤i∧i≤8)(v:Option Sp):(iO fun j=>fI (aV D i v j))+fI (D i)=(iO fun j=>fI (D j))+fI v:=by
 have:=wV (f:=fun j=>fI (D j)) (g:=fun j=>fI (aV D i v j)) hi (fun j hj=>by simp only[aJ D i v hj])
 simp only[aR]at this
 omega
theorem J.pages{P':Int→Nat→Option Bool}(h:J n q c D Q Lb ow P)(hP:∀i F p,D i=some F→p<1024→(F p).1=true→P' i p=P i p):J n q c D Q Lb ow P':=
 ⟨h.pid,h.fit,h.one,h.cnt,fun i F p hi hp hF=>by rw[hP i F p hi hp hF];exact h.perm i F p hi hp hF,h.excl,h.ko,h.tree,h.sum,h.low⟩
theorem J.nE(h:J n q c D Q Lb ow P){i:Int}{k:Nat}(h0:aX Lb i (k:Int)=0):J n q c D Q (aF Lb i (k:Int)) (yG ow i k) P:=
 ⟨h.pid,h.fit,h.one,h.cnt,h.perm,h.excl,fun j=>by
  rw[La h0 h.tree.good,h.ko]
  unfold yG
  split<;>omega,h.tree.nE i k,h.sum,h.low⟩
theorem J.oQ(h:J n q c D Q Lb ow P){i:Int}{k:Nat}(h0:fH Lb i (k:Int)=0)(hk:k≤ow i):J n q c D Q (bI Lb i (k:Int)) (Af ow i k) P:=
 ⟨h.pid,h.fit,h.one,h.cnt,h.perm,h.excl,fun j=>by
  have h1:=Lc h0 j
  have h2:=h.ko j
  unfold Af
  by_cases e:j=i
  ·subst e;rw[if_pos rfl]at h1 ⊢;omega
  ·rw[if_neg e]at h1 ⊢;omega,h.tree.oQ i k,h.sum,h.low⟩
theorem J.Qi(h:J n q c D Q Lb ow P){i:Int}{k:Nat}(hk:k≤ow i)(hi:1≤i∧i≤8)(hn:aD i Lb≠none):fH Lb i (k:Int)=0:=by
 cases ha:aD i Lb with
 |none=>exact absurd ha hn
 |some x=>
  have hb:=h.ko i
  unfold aZ at hb
  rw[ha]at hb
  simp only at hb
  have hx:=(h.tree.good.ok x (aj ha).1).2.2.2
  exact jk.2 ⟨bN.2 ⟨hi,by omega,by omega⟩,x,ha,by omega⟩
theorem J.Ld(h:J n q c D Q Lb ow P)(id up k:Int):J n q c D Q (dx Lb id up k) ow P:=
 ⟨h.pid,h.fit,h.one,h.cnt,h.perm,h.excl,fun j=>by rw[Gg];exact h.ko j,h.tree.open id up k,h.sum,h.low⟩
theorem J.there(h:J n q c D Q Lb ow P){i:Int}{F:Sp}(hi:D i=some F):aD i Lb≠none:=fun e=>by
 have:=h.ko i
 unfold aZ at this
 rw[e,hi]at this
 simp only[fI]at this
 have:=Xi F
 omega
theorem J.touch(h:J n q c D Q Lb ow P){i:Int}{F:Sp}(hi:D i=some F){p x:Nat}(hp:p<1024)(hF:(F p).1=false)(hx:Q x=0)(hxn:x<n){w k:Bool}(hwk:w=false∨k=false)(hP:P i p=some (w||k))(ho:1+newT F p≤ow i):
  J n q (c-1-newT F p) (aV D i (some (aI F p (true,w,k,(x:Int))))) (upd Q x 1) Lb (Af ow i (1+newT F p)) P:=by
 have hid:=h.pid i F hi
 have hc:=h.ow1 i
 have hlow:=h.low
 have hex:=Ay Q x 1 (k:=1024) (by omega)
 have hs:=uK (D:=D) hid (some (aI F p (true,w,k,(x:Int))))
 have tH:fI (some (aI F p (true,w,k,(x:Int))))=fI (D i)+1+newT F p:=by rw[hi];exact uH hp hF rfl
 have hsum:=h.sum
 have hok:nM true w k (x:Int)=true:=by
  unfold nM
  rcases hwk with rfl|rfl<;>simp<;>omega
 have hnew:∀j K r,D j=some K→r<1024→(K r).1=true→(K r).2.2.2≠(x:Int):=fun j K r hj hr hK e=>by
  obtain⟨f,h1,_,h3,_⟩:=h.held hj hr hK
  have:f=x:=by omega
  rw[this]at h3;exact h3 hx
 have hcase:∀{j:Int} {K:Sp},aV D i (some (aI F p (true,w,k,(x:Int)))) j=some K→(j=i∧K=aI F p (true,w,k,(x:Int)))∨(j≠i∧D j=some K):=fun {j K} hj=>by
  by_cases e:j=i
  ·subst e;rw[aR]at hj;exact Or.inl ⟨rfl,(Option.some.inj hj).symm⟩
  ·rw[aJ _ _ _ e]at hj;exact Or.inr ⟨e,hj⟩
 have hpg:∀{j:Int} {K:Sp} {r:Nat},aV D i (some (aI F p (true,w,k,(x:Int)))) j=some K→r<1024→(K r).1=true→(j=i∧r=p∧K r=(true,w,k,(x:Int)))∨(∃K',D j=some K'∧K r=K' r∧(K' r).1=true):=fun {j K r} hj hr hK=>by
  rcases hcase hj with⟨rfl,rfl⟩|⟨_,hj⟩
  ·by_cases e:r=p
   ·subst e;exact Or.inl ⟨rfl,rfl,aC _ _ _⟩
   ·rw[aA _ _ _ _ e]at hK ⊢;exact Or.inr ⟨F,hi,rfl,hK⟩
  ·exact Or.inr ⟨K,hj,rfl,hK⟩
 refine⟨fun j K hj=>?_,fun j K r hj=>?_,fun j l K M r s hj hl hr hs' hK hM he=>?_,fun f=>?_,fun j K r hj hr hK=>?_,fun j K r hj hr hK hw=>?_,fun j=>?_,h.tree,?_,h.low⟩
 ·rcases hcase hj with⟨rfl,_⟩|⟨_,hj⟩
  ·exact hid
  ·exact h.pid j K hj
 ·rcases hcase hj with⟨rfl,rfl⟩|⟨_,hj⟩
  ·by_cases e:r=p
   ·subst e;rw[aC];exact Or.inr ⟨rfl,by simp only;omega,hok⟩
   ·rw[aA _ _ _ _ e];exact h.fit j F r hi
  ·exact h.fit j K r hj
 ·rcases hpg hj hr hK with⟨_,e1,e2⟩|⟨K',a1,a2,a3⟩
  ·rcases hpg hl hs' hM with⟨_,e3,_⟩|⟨M',b1',b2,b3⟩
   ·omega
   ·rw[e2,b2]at he
    exact absurd he.symm (hnew l M' s b1' hs' b3)
  ·rcases hpg hl hs' hM with⟨_,e3,e4⟩|⟨M',b1',b2,b3⟩
   ·rw[a2,e4]at he
    exact absurd he (hnew j K' r a1 hr a3)
   ·rw[a2,b2]at he
    exact h.one j l K' M' r s a1 b1' hr hs' a3 b3 he
 ·have hc1:=uJ h.cnt hid (some (aI F p (true,w,k,(x:Int)))) f
  by_cases e:f=x
  ·subst e
   have h1:eO (D i) f=false:=by
    rw[hi]
    cases hh:Eo F f with
    |false=>exact hh
    |true=>
     obtain⟨r,hr,a,b⟩:=(dN _ _).1 hh
     exact absurd b (hnew i F r hi hr a)
   have h2:eO (some (aI F p (true,w,k,(f:Int)))) f=true:=tF hp ⟨rfl,rfl⟩
   rw[h1,h2,hx]at hc1
   rw[upd_same]
   simp only[b1,Bool.false_eq_true,if_false,if_true]at hc1 ⊢
   omega
  ·have h1:eO (some (aI F p (true,w,k,(x:Int)))) f=eO (D i) f:=by
    rw[hi]
    exact kN (by rw[hF];simp) (by simp only[true_and];omega)
   rw[h1]at hc1
   rw[aB _ _ _ _ e]
   omega
 ·rcases hpg hj hr hK with⟨rfl,rfl,e2⟩|⟨K',a1,a2,a3⟩
  ·rw[e2];exact hP
  ·rw[a2];exact h.perm j K' r a1 hr a3
 ·rcases hpg hj hr hK with⟨rfl,rfl,e2⟩|⟨K',a1,a2,a3⟩
  ·rw[e2,Int.toNat_natCast,upd_same]
  ·rw[a2]at hw ⊢
   have h3:=hnew j K' r a1 hr a3
   obtain⟨f,hf,_,_,_⟩:=h.held a1 hr a3
   rw[aB _ _ _ _ (by omega)]
   exact h.excl j K' r a1 hr a3 hw
 ·rw[h.ko j]
  unfold Af
  by_cases e:j=i
  ·subst e;rw[aR,if_pos rfl,tH];omega
  ·rw[aJ _ _ _ e,if_neg e]
 ·rw[hx]at hex
  omega
theorem J.entry(h:J n q c D Q Lb ow P){i:Int}{F:Sp}(hi:D i=some F){p:Nat}(hp:p<1024)(hF:(F p).1=true){w k:Bool}(hwk:w=false∨k=false){P':Int→Nat→Option Bool}(hP:P' i p=some (w||k))(hP':∀j r,¬(j=i∧r=p)→P' j r=P j r)(hw:w=true→Q (F p).2.2.2.toNat=1):
  J n q c (aV D i (some (aI F p (true,w,k,(F p).2.2.2)))) Q Lb ow P':=by
 have hid:=h.pid i F hi
 obtain⟨f0,hf0,hfn,Le,hfit⟩:=h.held hi hp hF
 have hlow:=h.low
 have hs:=uK (D:=D) hid (some (aI F p (true,w,k,(F p).2.2.2)))
 have tH:fI (some (aI F p (true,w,k,(F p).2.2.2)))=fI (D i):=by rw[hi];exact Ta hp hF rfl
 have hsum:=h.sum
 have hok:nM true w k (F p).2.2.2=true:=by
  unfold nM
  rcases hwk with rfl|rfl<;>simp<;>omega
 have hcase:∀{j:Int} {K:Sp},aV D i (some (aI F p (true,w,k,(F p).2.2.2))) j=some K→(j=i∧K=aI F p (true,w,k,(F p).2.2.2))∨(j≠i∧D j=some K):=fun {j K} hj=>by
  by_cases e:j=i
  ·subst e;rw[aR]at hj;exact Or.inl ⟨rfl,(Option.some.inj hj).symm⟩
  ·rw[aJ _ _ _ e]at hj;exact Or.inr ⟨e,hj⟩
 have hpg:∀{j:Int} {K:Sp} {r:Nat},aV D i (some (aI F p (true,w,k,(F p).2.2.2))) j=some K→r<1024→(K r).1=true→∃K',D j=some K'∧(K' r).1=true∧(K r).2.2.2=(K' r).2.2.2∧((j=i∧r=p∧K r=(true,w,k,(F p).2.2.2))∨(¬(j=i∧r=p)∧K r=K' r)):=fun {j K r} hj hr hK=>by
  rcases hcase hj with⟨rfl,rfl⟩|⟨hne,hj⟩
  ·by_cases e:r=p
   ·subst e;rw[aC];exact⟨F,hi,hF,rfl,Or.inl ⟨rfl,rfl,rfl⟩⟩
   ·rw[aA _ _ _ _ e]at hK ⊢;exact⟨F,hi,hK,rfl,Or.inr ⟨fun e2=>e e2.2,rfl⟩⟩
  ·exact⟨K,hj,hK,rfl,Or.inr ⟨fun e2=>hne e2.1,rfl⟩⟩
 refine⟨fun j K hj=>?_,fun j K r hj=>?_,fun j l K M r s hj hl hr hs' hK hM he=>?_,fun f=>?_,fun j K r hj hr hK=>?_,fun j K r hj hr hK hw'=>?_,fun j=>?_,h.tree,by omega,h.low⟩
 ·rcases hcase hj with⟨rfl,_⟩|⟨_,hj⟩
  ·exact hid
  ·exact h.pid j K hj
 ·rcases hcase hj with⟨rfl,rfl⟩|⟨_,hj⟩
  ·by_cases e:r=p
   ·subst e;rw[aC];exact Or.inr ⟨rfl,hfit.2.1,hok⟩
   ·rw[aA _ _ _ _ e];exact h.fit j F r hi
  ·exact h.fit j K r hj
 ·obtain⟨K',a1,a2,a3,_⟩:=hpg hj hr hK
  obtain⟨M',b1',b2,b3,_⟩:=hpg hl hs' hM
  rw[a3,b3]at he
  exact h.one j l K' M' r s a1 b1' hr hs' a2 b2 he
 ·have hc1:=uJ h.cnt hid (some (aI F p (true,w,k,(F p).2.2.2))) f
  have h1:eO (some (aI F p (true,w,k,(F p).2.2.2))) f=eO (D i) f:=by
   rw[hi]
   by_cases e:(F p).2.2.2=(f:Int)
   ·rw[show eO (some F) f=true from(dN _ _).2 ⟨p,hp,hF,e⟩]
    exact tF hp ⟨rfl,e⟩
   ·exact kN (fun hh=>e hh.2) (fun hh=>e hh.2)
  rw[h1]at hc1
  omega
 ·obtain⟨K',a1,a2,a3,a4⟩:=hpg hj hr hK
  rcases a4 with⟨rfl,rfl,e⟩|⟨hne,e⟩
  ·rw[e];exact hP
  ·rw[hP' j r hne,e];exact h.perm j K' r a1 hr a2
 ·obtain⟨K',a1,a2,a3,a4⟩:=hpg hj hr hK
  rcases a4 with⟨rfl,rfl,e⟩|⟨hne,e⟩
  ·rw[e]at hw' ⊢;exact hw hw'
  ·rw[e]at hw' ⊢;exact h.excl j K' r a1 hr a2 hw'
 ·rw[h.ko j]
  by_cases e:j=i
  ·subst e;rw[aR,tH]
  ·rw[aJ _ _ _ e]
end
end
section
theorem Cw{f:Int→Nat}{i l:Int}(hi:1≤i∧i≤8)(hl:1≤l∧l≤8)(hne:l≠i):f i+f l≤iO f:=by
 have h1:=wV (f:=f) (g:=fun j=>if j=i then 0 else f j) hi (fun j hj=>if_neg hj)
 have h2:=IK (fun j=>if j=i then 0 else f j) hl
 simp only[if_neg hne,if_true]at h1 h2
 omega
theorem Xj(Q:Nat→Nat)(x:Nat):∀{k:Nat},x<k→Q x-1≤Qh Q k
 |k+1,hx=>by
  rw[Qh]
  by_cases e:x=k
  ·subst e;omega
  ·have:=Xj Q x (k:=k) (by omega);omega
theorem zQ{F:Sp}(h:∀p,p<1024→(F p).1=false):cO F=1:=by
 unfold cO vP Ae
 rw[show((List.range 32).filter (hasB F)).length=rU (hasB F) 32 from rfl,qh (b:=hasB F) (fun y hy=>yF fun j hj=>h _ (by omega)),qh (b:=fun p=>(F p).1) (fun y hy=>h y hy)]
theorem Cx{F:Sp}(h:∀p,p<1024→(F p).1=false)(f:Nat):Eo F f=false:=by
 cases hh:Eo F f with
 |false=>rfl
 |true=>
  obtain⟨r,hr,a,_⟩:=(dN _ _).1 hh
  rw[h r hr]at a;cases a
theorem fE{D:Int→Option Sp}{i j:Int}{v K:Sp}(h:aV D i (some v) j=some K):(j=i∧K=v)∨(j≠i∧D j=some K):=by
 by_cases e:j=i
 ·subst e;rw[aR]at h;exact Or.inl ⟨rfl,(Option.some.inj h).symm⟩
 ·rw[aJ _ _ _ e]at h;exact Or.inr ⟨e,h⟩
section
variable {n q c:Nat} {D:Int→Option Sp} {Q:Nat→Nat} {Lb:List Nd} {ow:Int→Nat} {P:Int→Nat→Option Bool}
theorem J.afj(h:J n q c D Q Lb ow P)(f:Nat)(hf:f<n):Q f-1≤c:=by
 have h1:=Gf h.tree 0
 have h2:iO (aZ Lb)=iO (fun i=>fI (D i))+iO ow:=by rw[←KY];exact vU fun j _=>h.ko j
 have h3:=h.sum
 have h4:=Xj Q f (k:=1024) (by have:=h.low;omega)
 have h5:=h.tree.aS 0
 omega
theorem J.drop(h:J n q c D Q Lb ow P){i:Int}{F:Sp}(hi:D i=some F){p f:Nat}(hp:p<1024)(hF:(F p).1=true)(hf:(F p).2.2.2=(f:Int)):
  J n q (c+newT (aI F p z0) p+(if Q f=1 then 1 else 0)) (aV D i (some (aI F p z0))) (upd Q f (Q f-1)) Lb (yG ow i (1+newT (aI F p z0) p)) P:=by
 have hid:=h.pid i F hi
 obtain⟨f',hf',hfn,Le,hfit⟩:=h.held hi hp hF
 obtain rfl:f'=f:=by omega
 have hlow:=h.low
 have hex:=Ay Q f' (Q f'-1) (k:=1024) (by omega)
 have hs:=uK (D:=D) hid (some (aI F p z0))
 have tH:fI (D i)=fI (some (aI F p z0))+1+newT (aI F p z0) p:=by rw[hi];exact zP hp hF
 have hsum:=h.sum
 have hpg:∀{j:Int} {K:Sp} {r:Nat},aV D i (some (aI F p z0)) j=some K→r<1024→(K r).1=true→∃K',D j=some K'∧K r=K' r∧(K' r).1=true∧¬(j=i∧r=p):=fun {j K r} hj hr hK=>by
  rcases fE hj with⟨rfl,rfl⟩|⟨hne,hj⟩
  ·by_cases e:r=p
   ·subst e;rw[aC]at hK;cases hK
   ·rw[aA _ _ _ _ e]at hK ⊢;exact⟨F,hi,rfl,hK,fun e2=>e e2.2⟩
  ·exact⟨K,hj,rfl,hK,fun e2=>hne e2.1⟩
 refine⟨fun j K hj=>?_,fun j K r hj=>?_,fun j l K M r s hj hl hr hs' hK hM he=>?_,fun g=>?_,fun j K r hj hr hK=>?_,fun j K r hj hr hK hw=>?_,fun j=>?_,h.tree,?_,h.low⟩
 ·rcases fE hj with⟨rfl,_⟩|⟨_,hj⟩
  ·exact hid
  ·exact h.pid j K hj
 ·rcases fE hj with⟨rfl,rfl⟩|⟨_,hj⟩
  ·by_cases e:r=p
   ·subst e;rw[aC];exact Or.inl rfl
   ·rw[aA _ _ _ _ e];exact h.fit j F r hi
  ·exact h.fit j K r hj
 ·obtain⟨K',a1,a2,a3,_⟩:=hpg hj hr hK
  obtain⟨M',b1',b2,b3,_⟩:=hpg hl hs' hM
  rw[a2,b2]at he
  exact h.one j l K' M' r s a1 b1' hr hs' a3 b3 he
 ·have hc1:=uJ h.cnt hid (some (aI F p z0)) g
  by_cases e:g=f'
  ·subst e
   have h1:eO (D i) g=true:=by rw[hi];exact(dN _ _).2 ⟨p,hp,hF,hf⟩
   have h2:eO (some (aI F p z0)) g=false:=by
    cases hh:eO (some (aI F p z0)) g with
    |false=>rfl
    | true=>
     obtain⟨r,hr,a,b⟩:=(dN _ _).1 hh
     by_cases er:r=p
     ·subst er;rw[aC]at a;cases a
     ·rw[aA _ _ _ _ er]at a b
      exact absurd (h.one i i F F r p hi hi hr hp a hF (by rw[b,hf])) er
   rw[h1,h2]at hc1
   rw[upd_same]
   simp only[b1,Bool.false_eq_true,if_false,if_true]at hc1 ⊢
   omega
  ·have h1:eO (some (aI F p z0)) g=eO (D i) g:=by
    rw[hi]
    exact kN (fun hh=>by omega) (fun hh=>by cases hh.1)
   rw[h1]at hc1
   rw[aB _ _ _ _ e]
   omega
 ·obtain⟨K',a1,a2,a3,_⟩:=hpg hj hr hK
  rw[a2];exact h.perm j K' r a1 hr a3
 ·obtain⟨K',a1,a2,a3,a4⟩:=hpg hj hr hK
  rw[a2]at hw ⊢
  have he:=h.excl j K' r a1 hr a3 hw
  obtain⟨g,hg,_,_,_⟩:=h.held a1 hr a3
  rw[hg,Int.toNat_natCast]at he ⊢
  by_cases e:g=f'
  ·subst e
   have er:=h.one j i K' F r p a1 hi hr hp a3 hF (by rw[hg,hf])
   have hji:j≠i:=fun e2=>a4 ⟨e2,er⟩
   have h1:eO (D i) g=true:=by rw[hi];exact(dN _ _).2 ⟨p,hp,hF,hf⟩
   have h2:eO (D j) g=true:=by rw[a1];exact(dN _ _).2 ⟨r,hr,a3,hg⟩
   have:=Cw (f:=fun l=>b1 (eO (D l) g)) hid (h.pid j K' a1) hji
   rw[←h.cnt g,he,h1,h2]at this
   simp[b1]at this
  ·rw[aB _ _ _ _ e];exact he
 ·rw[h.ko j]
  unfold yG
  by_cases e:j=i
  ·subst e;rw[aR,if_pos rfl,tH];omega
  ·rw[aJ _ _ _ e,if_neg e]
 ·split
  ·omega
  ·omega
theorem J.share(h:J n q c D Q Lb ow P){i:Int}{F:Sp}(hi:D i=some F){p f:Nat}(hp:p<1024)(hF:(F p).1=false){j0:Int}{K0:Sp}(hj0:D j0=some K0)(hK0:(K0 p).1=true)(hf:(K0 p).2.2.2=(f:Int))(hno:∀j K,D j=some K→(K p).1=true→(K p).2.2.2=(f:Int)→(K p).2.1=false){k:Bool}(hP:P i p=some k)(ho:1+newT F p≤ow i):
  J n q (c-newT F p) (aV D i (some (aI F p (true,false,k,(f:Int))))) (upd Q f (Q f+1)) Lb (Af ow i (1+newT F p)) P:=by
 have hid:=h.pid i F hi
 have hc:=h.ow1 i
 obtain⟨f',hf',hfn,Le,_⟩:=h.held hj0 hp hK0
 obtain rfl:f'=f:=by omega
 have hlow:=h.low
 have hex:=Ay Q f' (Q f'+1) (k:=1024) (by omega)
 have hs:=uK (D:=D) hid (some (aI F p (true,false,k,(f':Int))))
 have tH:fI (some (aI F p (true,false,k,(f':Int))))=fI (D i)+1+newT F p:=by rw[hi];exact uH hp hF rfl
 have hsum:=h.sum
 have hok:nM true false k (f':Int)=true:=by
  unfold nM
  simp;omega
 have hat:∀j K r,D j=some K→r<1024→(K r).1=true→(K r).2.2.2=(f':Int)→r=p:=fun j K r hj hr hK e=>h.one j j0 K K0 r p hj hj0 hr hp hK hK0 (by rw[e,hf])
 have hpg:∀{j:Int} {K:Sp} {r:Nat},aV D i (some (aI F p (true,false,k,(f':Int)))) j=some K→r<1024→(K r).1=true→(j=i∧r=p∧K r=(true,false,k,(f':Int)))∨(∃K',D j=some K'∧K r=K' r∧(K' r).1=true):=fun {j K r} hj hr hK=>by
  rcases fE hj with⟨rfl,rfl⟩|⟨_,hj⟩
  ·by_cases e:r=p
   ·subst e;exact Or.inl ⟨rfl,rfl,aC _ _ _⟩
   ·rw[aA _ _ _ _ e]at hK ⊢;exact Or.inr ⟨F,hi,rfl,hK⟩
  ·exact Or.inr ⟨K,hj,rfl,hK⟩
 refine⟨fun j K hj=>?_,fun j K r hj=>?_,fun j l K M r s hj hl hr hs' hK hM he=>?_,fun g=>?_,fun j K r hj hr hK=>?_,fun j K r hj hr hK hw=>?_,fun j=>?_,h.tree,?_,h.low⟩
 ·rcases fE hj with⟨rfl,_⟩|⟨_,hj⟩
  ·exact hid
  ·exact h.pid j K hj
 ·rcases fE hj with⟨rfl,rfl⟩|⟨_,hj⟩
  ·by_cases e:r=p
   ·subst e;rw[aC];exact Or.inr ⟨rfl,by simp only;omega,hok⟩
   ·rw[aA _ _ _ _ e];exact h.fit j F r hi
  ·exact h.fit j K r hj
 ·rcases hpg hj hr hK with⟨_,e1,e2⟩|⟨K',a1,a2,a3⟩
  ·rcases hpg hl hs' hM with⟨_,e3,_⟩|⟨M',b1',b2,b3⟩
   ·omega
   ·rw[e2,b2]at he
    rw[e1];exact(hat l M' s b1' hs' b3 he.symm).symm
  ·rcases hpg hl hs' hM with⟨_,e3,e4⟩|⟨M',b1',b2,b3⟩
   ·rw[a2,e4]at he
    rw[e3];exact hat j K' r a1 hr a3 he
   ·rw[a2,b2]at he
    exact h.one j l K' M' r s a1 b1' hr hs' a3 b3 he
 ·have hc1:=uJ h.cnt hid (some (aI F p (true,false,k,(f':Int)))) g
  by_cases e:g=f'
  ·subst e
   have h1:eO (D i) g=false:=by
    rw[hi]
    cases hh:Eo F g with
    |false=>exact hh
    |true=>
     obtain⟨r,hr,a,b⟩:=(dN _ _).1 hh
     have:=hat i F r hi hr a b
     rw[this,hF]at a;cases a
   have h2:eO (some (aI F p (true,false,k,(g:Int)))) g=true:=tF hp ⟨rfl,rfl⟩
   rw[h1,h2]at hc1
   rw[upd_same]
   simp only[b1,Bool.false_eq_true,if_false,if_true]at hc1 ⊢
   omega
  ·have h1:eO (some (aI F p (true,false,k,(f':Int)))) g=eO (D i) g:=by
    rw[hi]
    exact kN (by rw[hF];simp) (by simp only[true_and];omega)
   rw[h1]at hc1
   rw[aB _ _ _ _ e]
   omega
 ·rcases hpg hj hr hK with⟨rfl,rfl,e2⟩|⟨K',a1,a2,a3⟩
  ·rw[e2];simpa using hP
  ·rw[a2];exact h.perm j K' r a1 hr a3
 ·rcases hpg hj hr hK with⟨rfl,rfl,e2⟩|⟨K',a1,a2,a3⟩
  ·rw[e2]at hw;cases hw
  ·rw[a2]at hw ⊢
   obtain⟨g,hg,_,_,_⟩:=h.held a1 hr a3
   have he:=h.excl j K' r a1 hr a3 hw
   rw[hg,Int.toNat_natCast]at he ⊢
   by_cases e:g=f'
   ·subst e
    have er:=hat j K' r a1 hr a3 hg
    subst er
    rw[hno j K' a1 a3 hg]at hw;cases hw
   ·rw[aB _ _ _ _ e];exact he
 ·rw[h.ko j]
  unfold Af
  by_cases e:j=i
  ·subst e;rw[aR,if_pos rfl,tH];omega
  ·rw[aJ _ _ _ e,if_neg e]
 ·omega
theorem Gh(D:Int→Option Sp)(i:Int)(u v:Option Sp):aV (aV D i u) i v=aV D i v:=by
 funext j;unfold aV;split<;>rfl
theorem Tc(D:Int→Option Sp){i j:Int}(h:i≠j)(u v:Option Sp):aV (aV D i u) j v=aV (aV D j v) i u:=by
 funext k;unfold aV
 by_cases e1:k=j
 ·subst e1;rw[if_pos rfl,if_neg (fun e=>h e.symm),if_pos rfl]
 ·rw[if_neg e1,if_neg e1]
theorem Td(ow:Int→Nat)(i:Int)(v:Nat):Af (yG ow i v) i v=ow:=by
 funext j;unfold Af yG;split<;>omega
theorem Xk(Q:Nat→Nat){x y:Nat}(h:x≠y)(u v:Nat):upd (upd Q x u) y v=upd (upd Q y v) x u:=by
 funext j;unfold upd
 by_cases e:j=y
 ·subst e;rw[if_pos rfl,if_neg (fun e=>h e.symm),if_pos rfl]
 ·rw[if_neg e,if_neg e]
theorem J.dup(h:J n q c D Q Lb ow P){i:Int}{F:Sp}(hi:D i=some F){p f x:Nat}(hp:p<1024)(hF:(F p).1=true)(hf:(F p).2.2.2=(f:Int))(hP:P i p=some true)(hQ:1<Q f)(hx:Q x=0)(hxn:x<n):
  J n q (c-1) (aV D i (some (aI F p (true,true,false,(x:Int))))) (upd (upd Q x 1) f (Q f-1)) Lb ow P:=by
 have hne:x≠f:=by rintro rfl;omega
 have h1:=h.drop hi hp hF hf
 rw[if_neg (by omega)]at h1
 have h2:=h1.touch (i:=i) (F:=aI F p z0) (aR _ _ _) (p:=p) (x:=x) hp (by rw[aC];rfl) (by rw[aB _ _ _ _ hne];exact hx) hxn (w:=true) (k:=false) (Or.inr rfl) hP (by unfold yG;rw[if_pos rfl];omega)
 rw[Gh,uI,Td,Xk Q (fun e=>hne e.symm)]at h2
 have e:c+newT (aI F p z0) p+0-1-newT (aI F p z0) p=c-1:=by omega
 rwa [e]at h2
theorem J.open_(h:J n q c D Q Lb ow P){i:Int}(hi:D i=none)(hid:1≤i∧i≤8)(ho:1≤ow i):J n q (c-1) (aV D i (some qP)) Q Lb (Af ow i 1) P:=by
 have hc:=h.ow1 i
 have hs:=uK (D:=D) hid (some qP)
 have tH:fI (some qP)=fI (D i)+1:=by rw[hi];exact KZ
 have hsum:=h.sum
 have hpg:∀{j:Int} {K:Sp} {r:Nat},aV D i (some qP) j=some K→r<1024→(K r).1=true→D j=some K:=fun {j K r} hj hr hK=>by
  rcases fE hj with⟨rfl,rfl⟩|⟨_,hj⟩
  ·cases hK
  ·exact hj
 refine⟨fun j K hj=>?_,fun j K r hj=>?_,fun j l K M r s hj hl hr hs' hK hM he=>h.one j l K M r s (hpg hj hr hK) (hpg hl hs' hM) hr hs' hK hM he,fun g=>?_,fun j K r hj hr hK=>h.perm j K r (hpg hj hr hK) hr hK,fun j K r hj hr hK hw=>h.excl j K r (hpg hj hr hK) hr hK hw,fun j=>?_,h.tree,by omega,h.low⟩
 ·rcases fE hj with⟨rfl,_⟩|⟨_,hj⟩
  ·exact hid
  ·exact h.pid j K hj
 ·rcases fE hj with⟨rfl,rfl⟩|⟨_,hj⟩
  ·exact Or.inl rfl
  ·exact h.fit j K r hj
 ·have hc1:=uJ h.cnt hid (some qP) g
  have h1:eO (some qP) g=false:=Cx (fun _ _=>rfl) g
  rw[h1,hi]at hc1
  exact hc1.symm
 ·rw[h.ko j]
  unfold Af
  by_cases e:j=i
  ·subst e;rw[aR,if_pos rfl,tH];omega
  ·rw[aJ _ _ _ e,if_neg e]
theorem J.close(h:J n q c D Q Lb ow P){i:Int}{F:Sp}(hi:D i=some F)(hF:∀p,p<1024→(F p).1=false):J n q (c+1) (aV D i none) Q Lb (yG ow i 1) P:=by
 have hid:=h.pid i F hi
 have hs:=uK (D:=D) hid none
 have tH:fI (D i)=fI none+1:=by rw[hi];exact zQ hF
 have hsum:=h.sum
 have hpg:∀{j:Int} {K:Sp},aV D i none j=some K→D j=some K:=fun {j K} hj=>by
  by_cases e:j=i
  ·subst e;rw[aR]at hj;cases hj
  ·rwa [aJ _ _ _ e]at hj
 refine⟨fun j K hj=>h.pid j K (hpg hj),fun j K r hj=>h.fit j K r (hpg hj),fun j l K M r s hj hl hr hs' hK hM he=>h.one j l K M r s (hpg hj) (hpg hl) hr hs' hK hM he,fun g=>?_,fun j K r hj hr hK=>h.perm j K r (hpg hj) hr hK,fun j K r hj hr hK hw=>h.excl j K r (hpg hj) hr hK hw,fun j=>?_,h.tree,by omega,h.low⟩
 ·have hc1:=uJ h.cnt hid none g
  have h1:eO (D i) g=false:=by rw[hi];exact Cx hF g
  rw[h1]at hc1
  exact hc1.symm
 ·rw[h.ko j]
  unfold yG
  by_cases e:j=i
  ·subst e;rw[aR,if_pos rfl,tH];omega
  ·rw[aJ _ _ _ e,if_neg e]
end
end
end Go.Proofs.YtammlljefhakmaaGreatDoor
