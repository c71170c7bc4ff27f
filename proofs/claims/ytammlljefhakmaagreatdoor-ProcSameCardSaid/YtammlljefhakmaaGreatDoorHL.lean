/- Helps of the proof. No condition. -/
import Derived.Test.YtammlljefhakmaaGreatDoorHK
import Derived.Test.YtammlljefhakmaaGreatDoorHC
namespace Go.Proofs.YtammlljefhakmaaGreatDoor
set_option maxRecDepth 100000
section
def jl(f:Int→Nat):Nat:=f 1+f 2+f 3+f 4+f 5+f 6+f 7+f 8
theorem abm{i:Int}(h:1≤i∧i≤8):i=1∨i=2∨i=3∨i=4∨i=5∨i=6∨i=7∨i=8:=by omega
theorem wE{f g:Int→Nat}{i:Int}(hi:1≤i∧i≤8)(h:∀j,j≠i→g j=f j):jl g+f i=jl f+g i:=by
 unfold jl
 rcases abm hi with rfl|rfl|rfl|rfl|rfl|rfl|rfl|rfl
 ·rw[h 2 (by decide),h 3 (by decide),h 4 (by decide),h 5 (by decide),h 6 (by decide),h 7 (by decide),h 8 (by decide)];omega
 ·rw[h 1 (by decide),h 3 (by decide),h 4 (by decide),h 5 (by decide),h 6 (by decide),h 7 (by decide),h 8 (by decide)];omega
 ·rw[h 1 (by decide),h 2 (by decide),h 4 (by decide),h 5 (by decide),h 6 (by decide),h 7 (by decide),h 8 (by decide)];omega
 ·rw[h 1 (by decide),h 2 (by decide),h 3 (by decide),h 5 (by decide),h 6 (by decide),h 7 (by decide),h 8 (by decide)];omega
 ·rw[h 1 (by decide),h 2 (by decide),h 3 (by decide),h 4 (by decide),h 6 (by decide),h 7 (by decide),h 8 (by decide)];omega
 ·rw[h 1 (by decide),h 2 (by decide),h 3 (by decide),h 4 (by decide),h 5 (by decide),h 7 (by decide),h 8 (by decide)];omega
 ·rw[h 1 (by decide),h 2 (by decide),h 3 (by decide),h 4 (by decide),h 5 (by decide),h 6 (by decide),h 8 (by decide)];omega
 ·rw[h 1 (by decide),h 2 (by decide),h 3 (by decide),h 4 (by decide),h 5 (by decide),h 6 (by decide),h 7 (by decide)];omega
theorem qG{f g:Int→Nat}(h:∀j,1≤j∧j≤8→g j=f j):jl g=jl f:=by
 unfold jl
 rw[h 1 (by decide),h 2 (by decide),h 3 (by decide),h 4 (by decide),h 5 (by decide),h 6 (by decide),h 7 (by decide),h 8 (by decide)]
theorem JK(f g:Int→Nat):jl (fun i=>f i+g i)=jl f+jl g:=by simp only[jl];omega
theorem GU(f:Int→Nat){i:Int}(hi:1≤i∧i≤8):f i≤jl f:=by
 unfold jl
 rcases abm hi with rfl|rfl|rfl|rfl|rfl|rfl|rfl|rfl<;>omega
def rz(b:Nat→Bool)(k:Nat):Nat:=((List.range k).filter b).length
theorem pU(b:Nat→Bool)(k:Nat):rz b (k+1)=rz b k+(if b k=true then 1 else 0):=by
 unfold rz
 rw[List.range_succ,List.filter_append,List.length_append]
 cases h:b k<;>simp[h]
theorem qH{b d:Nat→Bool}:∀{k:Nat},(∀y,y<k→d y=b y)→rz d k=rz b k
 |0,_=>rfl
 |k+1,h=>by rw[pU,pU,qH (k:=k) (fun y hy=>h y (by omega)),h k (by omega)]
theorem sK{b d:Nat→Bool}{x:Nat}(h:∀y,y≠x→d y=b y):∀{k:Nat},x<k→rz d k+(if b x=true then 1 else 0)=rz b k+(if d x=true then 1 else 0)
 | k+1,hx=>by
  rw[pU,pU]
  by_cases e:x=k
  ·subst e;rw[qH (b:=b) (fun y hy=>h y (by omega))];omega
  ·rw[h k (by omega)]
   have:=sK h (k:=k) (by omega)
   omega
theorem pV{b:Nat→Bool}:∀{k:Nat},(∀y,y<k→b y=false)→rz b k=0
 |0,_=>rfl
 |k+1,h=>by rw[pU,pV (k:=k) (fun y hy=>h y (by omega)),h k (by omega)];rfl
def zA(F:Sp):Nat:=rz (fun p=>(F p).1) 1024
def bY(F:Sp):Nat:=uY F+zA F
def eO:Option Sp→Nat
 |none=>0
 |some F=>bY F
def qg:Sp:=fun _=>z0
theorem xV{F:Sp}{i:Nat}(h:∀j,j<32→(F (32*i+j)).1=false):hasB F i=false:=by
 cases hh:hasB F i with
 |false=>rfl
 |true=>
  obtain⟨j,hj,hp⟩:=(jk _ _).1 hh
  rw[h j hj]at hp;cases hp
theorem JL:bY qg=1:=by
 unfold bY uY zA
 rw[show((List.range 32).filter (hasB qg)).length=rz (hasB qg) 32 from rfl,pV (b:=hasB qg) (fun y _=>xV fun _ _=>rfl),pV (b:=fun p=>(qg p).1) (fun y _=>rfl)]
theorem U3(F:Sp):1≤bY F:=by unfold bY uY;omega
def newT(F:Sp)(p:Nat):Nat:=if hasB F (p/32)=true then 0 else 1
theorem tY{F:Sp}{p:Nat}{e:fK}(hp:p<1024)(hF:(F p).1=false)(he:e.1=true):bY (aJ F p e)=bY F+1+newT F p:=by
 have h1:=sK (b:=hasB F) (d:=hasB (aJ F p e)) (x:=p/32) (fun y hy=>nN F p e y hy) (k:=32) (by omega)
 have h2:=sK (b:=fun q=>(F q).1) (d:=fun q=>(aJ F p e q).1) (x:=p) (fun y hy=>by rw[aC _ _ _ _ hy]) (k:=1024) hp
 rw[if_pos (wB F p e he)]at h1
 simp only[aG,hF,he,if_true]at h2
 unfold bY uY zA newT
 rw[show((List.range 32).filter (hasB F)).length=rz (hasB F) 32 from rfl,show((List.range 32).filter (hasB (aJ F p e))).length=rz (hasB (aJ F p e)) 32 from rfl]
 simp only[Bool.false_eq_true,if_false]at h2
 split at h1
 ·rename_i hh;rw[if_pos hh];omega
 ·rename_i hh;rw[if_neg hh];omega
theorem tZ(F:Sp)(p:Nat)(e d:fK):aJ (aJ F p e) p d=aJ F p d:=by
 funext q;unfold aJ;split<;>rfl
theorem Qy(F:Sp)(p:Nat):aJ F p (F p)=F:=by
 funext q;unfold aJ;split
 ·rename_i h;rw[h]
 ·rfl
theorem zf{F:Sp}{p:Nat}(hp:p<1024)(hF:(F p).1=true):bY F=bY (aJ F p z0)+1+newT (aJ F p z0) p:=by
 have:=tY (F:=aJ F p z0) (e:=F p) hp (by rw[aG];rfl) hF
 rwa [tZ,Qy]at this
theorem Qz{F:Sp}{p:Nat}{e:fK}(hp:p<1024)(hF:(F p).1=true)(he:e.1=true):bY (aJ F p e)=bY F:=by
 have h1:=zf hp hF
 have h2:=tY (F:=aJ F p z0) (e:=e) hp (by rw[aG];rfl) he
 rw[tZ]at h2
 omega
def BH(F:Sp)(f:Nat):Bool:=(List.range 1024).any fun p=>(F p).1&&decide ((F p).2.2.2=(f:Int))
theorem dK(F:Sp)(f:Nat):BH F f=true↔∃p,p<1024∧(F p).1=true∧(F p).2.2.2=(f:Int):=by
 simp[BH]
def dY:Option Sp→Nat→Bool
 |none,_=>false
 |some F,f=>BH F f
def b1(b:Bool):Nat:=if b=true then 1 else 0
def NV(Q:Nat→Nat):Nat→Nat
 |0=>0
 |k+1=>NV Q k+(Q k-1)
theorem xW{Q R:Nat→Nat}:∀{k:Nat},(∀y,y<k→R y=Q y)→NV R k=NV Q k
 |0,_=>rfl
 |k+1,h=>by rw[NV,NV,xW (k:=k) (fun y hy=>h y (by omega)),h k (by omega)]
theorem zS(Q:Nat→Nat)(x v:Nat):∀{k:Nat},x<k→NV (upd Q x v) k+(Q x-1)=NV Q k+(v-1)
 | k+1,hx=>by
  rw[NV,NV]
  by_cases e:x=k
  ·subst e;rw[xW (Q:=Q) (fun y hy=>aF _ _ _ _ (by omega)),upd_same];omega
  ·rw[aF _ _ _ _ (fun e2=>e e2.symm)]
   have:=zS Q x v (k:=k) (by omega)
   omega
theorem JM{Q:Nat→Nat}:∀{k:Nat},(∀y,y<k→Q y=0)→NV Q k=0
 |0,_=>rfl
 |k+1,h=>by rw[NV,JM (k:=k) (fun y hy=>h y (by omega)),h k (by omega)]
def aY(L:List Nd)(i:Int):Nat:=match aH i L with
 |none=>0
 |some n=>n.2.2.2.toNat
theorem EJ:∀{L:List Nd},L.Pairwise (fun a b=>a.1<b.1)→(∀n∈L,Nc n)→(jl (aY L):Int)=jY (fun n=>n.2.2.2) L
 |[],_,_=>rfl
 | n::r,hp,ho=>by
  obtain⟨h1,h2⟩:=List.pairwise_cons.1 hp
  have ih:=EJ h2 (fun x hx=>ho x (List.mem_cons_of_mem _ hx))
  have hn:=ho n (by simp)
  have hno:aH n.1 r=none:=dH.2 fun x hx=>by have:=h1 x hx;omega
  have hu:=wE (f:=aY r) (g:=aY (n::r)) (i:=n.1) hn.1 (fun j hj=>by unfold aY;rw[aH,if_neg (fun e=>hj e.symm)])
  have e1:aY r n.1=0:=by unfold aY;rw[hno]
  have e2:(aY (n::r) n.1:Int)=n.2.2.2:=by
   unfold aY;rw[aH,if_pos rfl];simp only;omega
  rw[jY,←ih]
  omega
theorem EK{q:Int}{L:List Nd}(h:Tree q L)(i:Int):(jl (aY L):Int)+aM L i≤q:=by
 rw[EJ h.good.up h.good.ok,←h.total,Bz]
 have hnn:∀n∈L,0≤dV L n:=h.left
 have key:∀(K:List Nd),(∀n∈K,0≤dV L n)→0≤jY (dV L) K∧∀n∈K,dV L n≤jY (dV L) K:=by
  intro K
  induction K with
  |nil=>intro _;exact⟨by simp[jY],by simp⟩
  |cons x r ih=>
   intro hk
   obtain⟨a,b⟩:=ih (fun n hn=>hk n (List.mem_cons_of_mem _ hn))
   have:=hk x (by simp)
   rw[jY]
   refine⟨by omega,fun n hn=>?_⟩
   rcases List.mem_cons.1 hn with rfl|hn
   ·omega
   ·have:=b n hn;omega
 have hk:=key L hnn
 unfold aM
 cases e:aH i L with
 |none=>simp only[Ac];omega
 |some n=>
  have:=hk.2 n (aj e).1
  simp only[Ac]
  omega
theorem EL{L:List Nd}(id up q i:Int):aY (bX L id up q) i=aY L i:=by
 unfold bX
 split
 ·rename_i h0
  obtain⟨_,_,hno,_⟩:=jH.1 h0
  unfold aY
  rw[gG (dH.1 hno)]
  by_cases e:i=id
  ·rw[if_pos e,e,hno];rfl
  ·rw[if_neg e]
 ·rfl
theorem JO{L:List Nd}{id:Int}{k:Nat}(h:aX L id (k:Int)=0)(hg:bN L)(i:Int):aY (aD L id (k:Int)) i=aY L i+(if i=id then k else 0):=by
 unfold aD
 rw[if_pos h]
 obtain⟨_,⟨x,hx⟩,_⟩:=gL.1 h
 unfold aY
 rw[bD (iN id _)]
 have hok:=hg.ok x (aj hx).1
 by_cases e:i=id
 ·subst e
  rw[hx,if_pos rfl]
  simp only[Option.map_some,gU,(aj hx).2,if_true]
  unfold Nc at hok
  omega
 ·rw[if_neg e]
  cases ha:aH i L with
  |none=>rfl
  |some y=>
   have:=(aj ha).2
   simp only[Option.map_some,gU,this,if_neg e];rfl
theorem JR{L:List Nd}{id:Int}{k:Nat}(h:fG L id (k:Int)=0)(i:Int):aY (bR L id (k:Int)) i+(if i=id then k else 0)=aY L i:=by
 unfold bR
 rw[if_pos h]
 obtain⟨_,x,hx,hk⟩:=jd.1 h
 unfold aY
 rw[bD (iN id _)]
 by_cases e:i=id
 ·subst e
  rw[hx,if_pos rfl]
  simp only[Option.map_some,gU,(aj hx).2,if_true]
  omega
 ·rw[if_neg e]
  cases ha:aH i L with
  |none=>rfl
  |some y=>
   have:=(aj ha).2
   simp only[Option.map_some,gU,this,if_neg e];rfl
def aT(D:Int→Option Sp)(i:Int)(v:Option Sp):Int→Option Sp:=fun j=>if j=i then v else D j
theorem aQ(D:Int→Option Sp)(i:Int)(v:Option Sp):aT D i v i=v:=by simp[aT]
theorem aI(D:Int→Option Sp)(i:Int)(v:Option Sp){j:Int}(h:j≠i):aT D i v j=D j:=by simp[aT,h]
def xX(ow:Int→Nat)(i:Int)(v:Nat):Int→Nat:=fun j=>if j=i then ow j+v else ow j
def zB(ow:Int→Nat)(i:Int)(v:Nat):Int→Nat:=fun j=>if j=i then ow j-v else ow j
structure J(n q c:Nat)(D:Int→Option Sp)(Q:Nat→Nat)(Lb:List Nd)(ow:Int→Nat)(P:Int→Nat→Option Bool):Prop where
 pid:∀i F,D i=some F→1≤i∧i≤8
 fit:∀i F p,D i=some F→F p=z0∨mG n (F p)
 one:∀i j F K p r,D i=some F→D j=some K→p<1024→r<1024→(F p).1=true→(K r).1=true→(F p).2.2.2=(K r).2.2.2→p=r
 cnt:∀f:Nat,Q f=jl fun i=>b1 (dY (D i) f)
 perm:∀i F p,D i=some F→p<1024→(F p).1=true→P i p=some ((F p).2.1||(F p).2.2.1)
 excl:∀i F p,D i=some F→p<1024→(F p).1=true→(F p).2.1=true→Q (F p).2.2.2.toNat=1
 kH:∀i,aY Lb i=eO (D i)+ow i
 tree:Tree (q:Int) Lb
 sum:q+NV Q 1024=c+jl fun i=>eO (D i)
 low:n≤1024
theorem J.room{n q c:Nat}{D:Int→Option Sp}{Q:Nat→Nat}{Lb:List Nd}{ow:Int→Nat}{P:Int→Nat→Option Bool}(h:J n q c D Q Lb ow P)(i:Int):(jl ow:Int)+aM Lb i≤c:=by
 have h1:=EK h.tree i
 have h2:jl (aY Lb)=jl (fun i=>eO (D i))+jl ow:=by rw[←JK];exact qG fun j _=>h.kH j
 have h3:=h.sum
 omega
theorem J.out{n q c:Nat}{D:Int→Option Sp}{Q:Nat→Nat}{Lb:List Nd}{ow:Int→Nat}{P:Int→Nat→Option Bool}(h:J n q c D Q Lb ow P){i:Int}(hi:¬(1≤i∧i≤8)):ow i=0:=by
 have h1:=h.kH i
 have h2:aH i Lb=none:=dH.2 fun x hx e=>hi (by rw[←e];exact(h.tree.good.ok x hx).1)
 unfold aY at h1
 rw[h2]at h1
 simp only at h1
 omega
theorem J.ow1{n q c:Nat}{D:Int→Option Sp}{Q:Nat→Nat}{Lb:List Nd}{ow:Int→Nat}{P:Int→Nat→Option Bool}(h:J n q c D Q Lb ow P)(i:Int):ow i≤c:=by
 by_cases hi:1≤i∧i≤8
 ·have h1:=h.room i
  have h2:=GU ow hi
  have h3:=h.tree.aM i
  omega
 ·rw[h.out hi];omega
theorem J.held{n q c:Nat}{D:Int→Option Sp}{Q:Nat→Nat}{Lb:List Nd}{ow:Int→Nat}{P:Int→Nat→Option Bool}(h:J n q c D Q Lb ow P){i:Int}{F:Sp}{p:Nat}(hi:D i=some F)(hp:p<1024)(hF:(F p).1=true):∃f:Nat,(F p).2.2.2=(f:Int)∧f<n∧Q f≠0∧mG n (F p):=by
 rcases h.fit i F p hi with e|e
 ·rw[e]at hF;cases hF
 ·obtain⟨h1,h2,h3⟩:=e
  have h4:=(zM h3).1
  refine⟨(F p).2.2.2.toNat,by omega,by omega,?_,h1,h2,h3⟩
  rw[h.cnt]
  have:=GU (fun i=>b1 (dY (D i) (F p).2.2.2.toNat)) (h.pid i F hi)
  have h5:dY (D i) (F p).2.2.2.toNat=true:=by
   rw[hi];exact(dK _ _).2 ⟨p,hp,hF,by omega⟩
  simp only[h5]at this
  have e1:b1 true=1:=rfl
  omega
theorem J.most{n q c:Nat}{D:Int→Option Sp}{Q:Nat→Nat}{Lb:List Nd}{ow:Int→Nat}{P:Int→Nat→Option Bool}(h:J n q c D Q Lb ow P)(f:Nat):Q f≤8:=by
 rw[h.cnt]
 have:∀b:Bool,b1 b≤1:=by intro b;cases b<;>simp[b1]
 simp only[jl]
 have:=this (dY (D 1) f);have:= ‹∀b:Bool,b1 b≤1› (dY (D 2) f);have:= ‹∀b:Bool,b1 b≤1› (dY (D 3) f);have:= ‹∀b:Bool,b1 b≤1› (dY (D 4) f);have:= ‹∀b:Bool,b1 b≤1› (dY (D 5) f);have:= ‹∀b:Bool,b1 b≤1› (dY (D 6) f);have:= ‹∀b:Bool,b1 b≤1› (dY (D 7) f);have:= ‹∀b:Bool,b1 b≤1› (dY (D 8) f)
 omega
theorem kI{F:Sp}{p:Nat}{e:fK}{f:Nat}(h1:¬((F p).1=true∧(F p).2.2.2=(f:Int)))(h2:¬(e.1=true∧e.2.2.2=(f:Int))):BH (aJ F p e) f=BH F f:=by
 rw[Bool.eq_iff_iff,dK,dK]
 constructor
 ·rintro⟨r,hr,a,b⟩
  by_cases er:r=p
  ·subst er;rw[aG]at a b;exact absurd ⟨a,b⟩ h2
  ·rw[aC _ _ _ _ er]at a b;exact⟨r,hr,a,b⟩
 ·rintro⟨r,hr,a,b⟩
  by_cases er:r=p
  ·subst er;exact absurd ⟨a,b⟩ h1
  ·exact⟨r,hr,by rw[aC _ _ _ _ er];exact a,by rw[aC _ _ _ _ er];exact b⟩
theorem sM{F:Sp}{p:Nat}{e:fK}{f:Nat}(hp:p<1024)(h2:e.1=true∧e.2.2.2=(f:Int)):BH (aJ F p e) f=true:=
 (dK _ _).2 ⟨p,hp,by rw[aG];exact h2.1,by rw[aG];exact h2.2⟩
section
variable {n q c:Nat} {D:Int→Option Sp} {Q:Nat→Nat} {Lb:List Nd} {ow:Int→Nat} {P:Int→Nat→Option Bool}
theorem uf(h:∀f:Nat,Q f=jl fun i=>b1 (dY (D i) f)){i:Int}(hi:1≤i∧i≤8)(v:Option Sp)(f:Nat):(jl fun j=>b1 (dY (aT D i v j) f))+b1 (dY (D i) f)=Q f+b1 (dY v f):=by
 have:=wE (f:=fun j=>b1 (dY (D j) f)) (g:=fun j=>b1 (dY (aT D i v j) f)) hi (fun j hj=>by simp only[aI D i v hj])
 simp only[aQ]at this
 rw[h f]
 omega
theorem ug{i:Int}(hi:1≤i∧i≤8)(v:Option Sp):(jl fun j=>eO (aT D i v j))+eO (D i)=(jl fun j=>eO (D j))+eO v:=by
 have:=wE (f:=fun j=>eO (D j)) (g:=fun j=>eO (aT D i v j)) hi (fun j hj=>by simp only[aI D i v hj])
 simp only[aQ]at this
 omega
theorem J.pages{P':Int→Nat→Option Bool}(h:J n q c D Q Lb ow P)(hP:∀i F p,D i=some F→p<1024→(F p).1=true→P' i p=P i p):J n q c D Q Lb ow P':=
 ⟨h.pid,h.fit,h.one,h.cnt,fun i F p hi hp hF=>by rw[hP i F p hi hp hF];exact h.perm i F p hi hp hF,h.excl,h.kH,h.tree,h.sum,h.low⟩
theorem J.mY(h:J n q c D Q Lb ow P){i:Int}{k:Nat}(h0:aX Lb i (k:Int)=0):J n q c D Q (aD Lb i (k:Int)) (xX ow i k) P:=
 ⟨h.pid,h.fit,h.one,h.cnt,h.perm,h.excl,fun j=>by
  rw[JO h0 h.tree.good,h.kH]
  unfold xX
  split<;>omega,h.tree.mY i k,h.sum,h.low⟩
theorem J.oJ(h:J n q c D Q Lb ow P){i:Int}{k:Nat}(h0:fG Lb i (k:Int)=0)(hk:k≤ow i):J n q c D Q (bR Lb i (k:Int)) (zB ow i k) P:=
 ⟨h.pid,h.fit,h.one,h.cnt,h.perm,h.excl,fun j=>by
  have h1:=JR h0 j
  have h2:=h.kH j
  unfold zB
  by_cases e:j=i
  ·subst e;rw[if_pos rfl]at h1 ⊢;omega
  ·rw[if_neg e]at h1 ⊢;omega,h.tree.oJ i k,h.sum,h.low⟩
theorem J.NY(h:J n q c D Q Lb ow P){i:Int}{k:Nat}(hk:k≤ow i)(hi:1≤i∧i≤8)(hn:aH i Lb≠none):fG Lb i (k:Int)=0:=by
 cases ha:aH i Lb with
 |none=>exact absurd ha hn
 |some x=>
  have hb:=h.kH i
  unfold aY at hb
  rw[ha]at hb
  simp only at hb
  have hx:=(h.tree.good.ok x (aj ha).1).2.2.2
  exact jd.2 ⟨bT.2 ⟨hi,by omega,by omega⟩,x,ha,by omega⟩
theorem J.JU(h:J n q c D Q Lb ow P)(id up k:Int):J n q c D Q (bX Lb id up k) ow P:=
 ⟨h.pid,h.fit,h.one,h.cnt,h.perm,h.excl,fun j=>by rw[EL];exact h.kH j,h.tree.open id up k,h.sum,h.low⟩
theorem J.there(h:J n q c D Q Lb ow P){i:Int}{F:Sp}(hi:D i=some F):aH i Lb≠none:=fun e=>by
 have:=h.kH i
 unfold aY at this
 rw[e,hi]at this
 simp only[eO]at this
 have:=U3 F
 omega
theorem J.touch(h:J n q c D Q Lb ow P){i:Int}{F:Sp}(hi:D i=some F){p x:Nat}(hp:p<1024)(hF:(F p).1=false)(hx:Q x=0)(hxn:x<n){w k:Bool}(hwk:w=false∨k=false)(hP:P i p=some (w||k))(ho:1+newT F p≤ow i):
  J n q (c-1-newT F p) (aT D i (some (aJ F p (true,w,k,(x:Int))))) (upd Q x 1) Lb (zB ow i (1+newT F p)) P:=by
 have hid:=h.pid i F hi
 have hc:=h.ow1 i
 have hlow:=h.low
 have hex:=zS Q x 1 (k:=1024) (by omega)
 have hs:=ug (D:=D) hid (some (aJ F p (true,w,k,(x:Int))))
 have sN:eO (some (aJ F p (true,w,k,(x:Int))))=eO (D i)+1+newT F p:=by rw[hi];exact tY hp hF rfl
 have hsum:=h.sum
 have hok:nA true w k (x:Int)=true:=by
  unfold nA
  rcases hwk with rfl|rfl<;>simp<;>omega
 have hnew:∀j K r,D j=some K→r<1024→(K r).1=true→(K r).2.2.2≠(x:Int):=fun j K r hj hr hK e=>by
  obtain⟨f,h1,_,h3,_⟩:=h.held hj hr hK
  have:f=x:=by omega
  rw[this]at h3;exact h3 hx
 have hcase:∀{j:Int} {K:Sp},aT D i (some (aJ F p (true,w,k,(x:Int)))) j=some K→(j=i∧K=aJ F p (true,w,k,(x:Int)))∨(j≠i∧D j=some K):=fun {j K} hj=>by
  by_cases e:j=i
  ·subst e;rw[aQ]at hj;exact Or.inl ⟨rfl,(Option.some.inj hj).symm⟩
  ·rw[aI _ _ _ e]at hj;exact Or.inr ⟨e,hj⟩
 have hpg:∀{j:Int} {K:Sp} {r:Nat},aT D i (some (aJ F p (true,w,k,(x:Int)))) j=some K→r<1024→(K r).1=true→(j=i∧r=p∧K r=(true,w,k,(x:Int)))∨(∃K',D j=some K'∧K r=K' r∧(K' r).1=true):=fun {j K r} hj hr hK=>by
  rcases hcase hj with⟨rfl,rfl⟩|⟨_,hj⟩
  ·by_cases e:r=p
   ·subst e;exact Or.inl ⟨rfl,rfl,aG _ _ _⟩
   ·rw[aC _ _ _ _ e]at hK ⊢;exact Or.inr ⟨F,hi,rfl,hK⟩
  ·exact Or.inr ⟨K,hj,rfl,hK⟩
 refine⟨fun j K hj=>?_,fun j K r hj=>?_,fun j l K M r s hj hl hr hs' hK hM he=>?_,fun f=>?_,fun j K r hj hr hK=>?_,fun j K r hj hr hK hw=>?_,fun j=>?_,h.tree,?_,h.low⟩
 ·rcases hcase hj with⟨rfl,_⟩|⟨_,hj⟩
  ·exact hid
  ·exact h.pid j K hj
 ·rcases hcase hj with⟨rfl,rfl⟩|⟨_,hj⟩
  ·by_cases e:r=p
   ·subst e;rw[aG];exact Or.inr ⟨rfl,by simp only;omega,hok⟩
   ·rw[aC _ _ _ _ e];exact h.fit j F r hi
  ·exact h.fit j K r hj
 ·rcases hpg hj hr hK with⟨_,e1,e2⟩|⟨K',a1,a2,a3⟩
  ·rcases hpg hl hs' hM with⟨_,e3,_⟩|⟨M',b1',b2,b3⟩
   ·omega
   ·rw[e2,b2]at he
    exact absurd he.symm (hnew l M' s b1' hs' b3)
  ·rcases hpg hl hs' hM with⟨_,e3,e4⟩|⟨M',b1',b2,b3⟩
   ·rw[a2,e4]at he
    exact absurd he (hnew j K' r a1 hr a3)
   ·rw[a2,b2]at he
    exact h.one j l K' M' r s a1 b1' hr hs' a3 b3 he
 ·have hc1:=uf h.cnt hid (some (aJ F p (true,w,k,(x:Int)))) f
  by_cases e:f=x
  ·subst e
   have h1:dY (D i) f=false:=by
    rw[hi]
    cases hh:BH F f with
    |false=>exact hh
    |true=>
     obtain⟨r,hr,a,b⟩:=(dK _ _).1 hh
     exact absurd b (hnew i F r hi hr a)
   have h2:dY (some (aJ F p (true,w,k,(f:Int)))) f=true:=sM hp ⟨rfl,rfl⟩
   rw[h1,h2,hx]at hc1
   rw[upd_same]
   simp only[b1,Bool.false_eq_true,if_false,if_true]at hc1 ⊢
   omega
  ·have h1:dY (some (aJ F p (true,w,k,(x:Int)))) f=dY (D i) f:=by
    rw[hi]
    exact kI (by rw[hF];simp) (by simp only[true_and];omega)
   rw[h1]at hc1
   rw[aF _ _ _ _ e]
   omega
 ·rcases hpg hj hr hK with⟨rfl,rfl,e2⟩|⟨K',a1,a2,a3⟩
  ·rw[e2];exact hP
  ·rw[a2];exact h.perm j K' r a1 hr a3
 ·rcases hpg hj hr hK with⟨rfl,rfl,e2⟩|⟨K',a1,a2,a3⟩
  ·rw[e2,Int.toNat_natCast,upd_same]
  ·rw[a2]at hw ⊢
   have h3:=hnew j K' r a1 hr a3
   obtain⟨f,hf,_,_,_⟩:=h.held a1 hr a3
   rw[aF _ _ _ _ (by omega)]
   exact h.excl j K' r a1 hr a3 hw
 ·rw[h.kH j]
  unfold zB
  by_cases e:j=i
  ·subst e;rw[aQ,if_pos rfl,sN];omega
  ·rw[aI _ _ _ e,if_neg e]
 ·rw[hx]at hex
  omega
theorem J.entry(h:J n q c D Q Lb ow P){i:Int}{F:Sp}(hi:D i=some F){p:Nat}(hp:p<1024)(hF:(F p).1=true){w k:Bool}(hwk:w=false∨k=false){P':Int→Nat→Option Bool}(hP:P' i p=some (w||k))(hP':∀j r,¬(j=i∧r=p)→P' j r=P j r)(hw:w=true→Q (F p).2.2.2.toNat=1):
  J n q c (aT D i (some (aJ F p (true,w,k,(F p).2.2.2)))) Q Lb ow P':=by
 have hid:=h.pid i F hi
 obtain⟨f0,hf0,hfn,JV,hfit⟩:=h.held hi hp hF
 have hlow:=h.low
 have hs:=ug (D:=D) hid (some (aJ F p (true,w,k,(F p).2.2.2)))
 have sN:eO (some (aJ F p (true,w,k,(F p).2.2.2)))=eO (D i):=by rw[hi];exact Qz hp hF rfl
 have hsum:=h.sum
 have hok:nA true w k (F p).2.2.2=true:=by
  unfold nA
  rcases hwk with rfl|rfl<;>simp<;>omega
 have hcase:∀{j:Int} {K:Sp},aT D i (some (aJ F p (true,w,k,(F p).2.2.2))) j=some K→(j=i∧K=aJ F p (true,w,k,(F p).2.2.2))∨(j≠i∧D j=some K):=fun {j K} hj=>by
  by_cases e:j=i
  ·subst e;rw[aQ]at hj;exact Or.inl ⟨rfl,(Option.some.inj hj).symm⟩
  ·rw[aI _ _ _ e]at hj;exact Or.inr ⟨e,hj⟩
 have hpg:∀{j:Int} {K:Sp} {r:Nat},aT D i (some (aJ F p (true,w,k,(F p).2.2.2))) j=some K→r<1024→(K r).1=true→∃K',D j=some K'∧(K' r).1=true∧(K r).2.2.2=(K' r).2.2.2∧((j=i∧r=p∧K r=(true,w,k,(F p).2.2.2))∨(¬(j=i∧r=p)∧K r=K' r)):=fun {j K r} hj hr hK=>by
  rcases hcase hj with⟨rfl,rfl⟩|⟨hne,hj⟩
  ·by_cases e:r=p
   ·subst e;rw[aG];exact⟨F,hi,hF,rfl,Or.inl ⟨rfl,rfl,rfl⟩⟩
   ·rw[aC _ _ _ _ e]at hK ⊢;exact⟨F,hi,hK,rfl,Or.inr ⟨fun e2=>e e2.2,rfl⟩⟩
  ·exact⟨K,hj,hK,rfl,Or.inr ⟨fun e2=>hne e2.1,rfl⟩⟩
 refine⟨fun j K hj=>?_,fun j K r hj=>?_,fun j l K M r s hj hl hr hs' hK hM he=>?_,fun f=>?_,fun j K r hj hr hK=>?_,fun j K r hj hr hK hw'=>?_,fun j=>?_,h.tree,by omega,h.low⟩
 ·rcases hcase hj with⟨rfl,_⟩|⟨_,hj⟩
  ·exact hid
  ·exact h.pid j K hj
 ·rcases hcase hj with⟨rfl,rfl⟩|⟨_,hj⟩
  ·by_cases e:r=p
   ·subst e;rw[aG];exact Or.inr ⟨rfl,hfit.2.1,hok⟩
   ·rw[aC _ _ _ _ e];exact h.fit j F r hi
  ·exact h.fit j K r hj
 ·obtain⟨K',a1,a2,a3,_⟩:=hpg hj hr hK
  obtain⟨M',b1',b2,b3,_⟩:=hpg hl hs' hM
  rw[a3,b3]at he
  exact h.one j l K' M' r s a1 b1' hr hs' a2 b2 he
 ·have hc1:=uf h.cnt hid (some (aJ F p (true,w,k,(F p).2.2.2))) f
  have h1:dY (some (aJ F p (true,w,k,(F p).2.2.2))) f=dY (D i) f:=by
   rw[hi]
   by_cases e:(F p).2.2.2=(f:Int)
   ·rw[show dY (some F) f=true from(dK _ _).2 ⟨p,hp,hF,e⟩]
    exact sM hp ⟨rfl,e⟩
   ·exact kI (fun hh=>e hh.2) (fun hh=>e hh.2)
  rw[h1]at hc1
  omega
 ·obtain⟨K',a1,a2,a3,a4⟩:=hpg hj hr hK
  rcases a4 with⟨rfl,rfl,e⟩|⟨hne,e⟩
  ·rw[e];exact hP
  ·rw[hP' j r hne,e];exact h.perm j K' r a1 hr a2
 ·obtain⟨K',a1,a2,a3,a4⟩:=hpg hj hr hK
  rcases a4 with⟨rfl,rfl,e⟩|⟨hne,e⟩
  ·rw[e]at hw' ⊢;exact hw hw'
  ·rw[e]at hw' ⊢;exact h.excl j K' r a1 hr a2 hw'
 ·rw[h.kH j]
  by_cases e:j=i
  ·subst e;rw[aQ,sN]
  ·rw[aI _ _ _ e]
end
end
section
theorem BI{f:Int→Nat}{i l:Int}(hi:1≤i∧i≤8)(hl:1≤l∧l≤8)(hne:l≠i):f i+f l≤jl f:=by
 have h1:=wE (f:=f) (g:=fun j=>if j=i then 0 else f j) hi (fun j hj=>if_neg hj)
 have h2:=GU (fun j=>if j=i then 0 else f j) hl
 simp only[if_neg hne,if_true]at h1 h2
 omega
theorem U4(Q:Nat→Nat)(x:Nat):∀{k:Nat},x<k→Q x-1≤NV Q k
 |k+1,hx=>by
  rw[NV]
  by_cases e:x=k
  ·subst e;omega
  ·have:=U4 Q x (k:=k) (by omega);omega
theorem JW{F:Sp}(h:∀p,p<1024→(F p).1=false):bY F=1:=by
 unfold bY uY zA
 rw[show((List.range 32).filter (hasB F)).length=rz (hasB F) 32 from rfl,pV (b:=hasB F) (fun y hy=>xV fun j hj=>h _ (by omega)),pV (b:=fun p=>(F p).1) (fun y hy=>h y hy)]
theorem BJ{F:Sp}(h:∀p,p<1024→(F p).1=false)(f:Nat):BH F f=false:=by
 cases hh:BH F f with
 |false=>rfl
 |true=>
  obtain⟨r,hr,a,_⟩:=(dK _ _).1 hh
  rw[h r hr]at a;cases a
theorem fD{D:Int→Option Sp}{i j:Int}{v K:Sp}(h:aT D i (some v) j=some K):(j=i∧K=v)∨(j≠i∧D j=some K):=by
 by_cases e:j=i
 ·subst e;rw[aQ]at h;exact Or.inl ⟨rfl,(Option.some.inj h).symm⟩
 ·rw[aI _ _ _ e]at h;exact Or.inr ⟨e,h⟩
section
variable {n q c:Nat} {D:Int→Option Sp} {Q:Nat→Nat} {Lb:List Nd} {ow:Int→Nat} {P:Int→Nat→Option Bool}
theorem J.adh(h:J n q c D Q Lb ow P)(f:Nat)(hf:f<n):Q f-1≤c:=by
 have h1:=EK h.tree 0
 have h2:jl (aY Lb)=jl (fun i=>eO (D i))+jl ow:=by rw[←JK];exact qG fun j _=>h.kH j
 have h3:=h.sum
 have h4:=U4 Q f (k:=1024) (by have:=h.low;omega)
 have h5:=h.tree.aM 0
 omega
theorem J.drop(h:J n q c D Q Lb ow P){i:Int}{F:Sp}(hi:D i=some F){p f:Nat}(hp:p<1024)(hF:(F p).1=true)(hf:(F p).2.2.2=(f:Int)):
  J n q (c+newT (aJ F p z0) p+(if Q f=1 then 1 else 0)) (aT D i (some (aJ F p z0))) (upd Q f (Q f-1)) Lb (xX ow i (1+newT (aJ F p z0) p)) P:=by
 have hid:=h.pid i F hi
 obtain⟨f',hf',hfn,JV,hfit⟩:=h.held hi hp hF
 obtain rfl:f'=f:=by omega
 have hlow:=h.low
 have hex:=zS Q f' (Q f'-1) (k:=1024) (by omega)
 have hs:=ug (D:=D) hid (some (aJ F p z0))
 have sN:eO (D i)=eO (some (aJ F p z0))+1+newT (aJ F p z0) p:=by rw[hi];exact zf hp hF
 have hsum:=h.sum
 have hpg:∀{j:Int} {K:Sp} {r:Nat},aT D i (some (aJ F p z0)) j=some K→r<1024→(K r).1=true→∃K',D j=some K'∧K r=K' r∧(K' r).1=true∧¬(j=i∧r=p):=fun {j K r} hj hr hK=>by
  rcases fD hj with⟨rfl,rfl⟩|⟨hne,hj⟩
  ·by_cases e:r=p
   ·subst e;rw[aG]at hK;cases hK
   ·rw[aC _ _ _ _ e]at hK ⊢;exact⟨F,hi,rfl,hK,fun e2=>e e2.2⟩
  ·exact⟨K,hj,rfl,hK,fun e2=>hne e2.1⟩
 refine⟨fun j K hj=>?_,fun j K r hj=>?_,fun j l K M r s hj hl hr hs' hK hM he=>?_,fun g=>?_,fun j K r hj hr hK=>?_,fun j K r hj hr hK hw=>?_,fun j=>?_,h.tree,?_,h.low⟩
 ·rcases fD hj with⟨rfl,_⟩|⟨_,hj⟩
  ·exact hid
  ·exact h.pid j K hj
 ·rcases fD hj with⟨rfl,rfl⟩|⟨_,hj⟩
  ·by_cases e:r=p
   ·subst e;rw[aG];exact Or.inl rfl
   ·rw[aC _ _ _ _ e];exact h.fit j F r hi
  ·exact h.fit j K r hj
 ·obtain⟨K',a1,a2,a3,_⟩:=hpg hj hr hK
  obtain⟨M',b1',b2,b3,_⟩:=hpg hl hs' hM
  rw[a2,b2]at he
  exact h.one j l K' M' r s a1 b1' hr hs' a3 b3 he
 ·have hc1:=uf h.cnt hid (some (aJ F p z0)) g
  by_cases e:g=f'
  ·subst e
   have h1:dY (D i) g=true:=by rw[hi];exact(dK _ _).2 ⟨p,hp,hF,hf⟩
   have h2:dY (some (aJ F p z0)) g=false:=by
    cases hh:dY (some (aJ F p z0)) g with
    |false=>rfl
    | true=>
     obtain⟨r,hr,a,b⟩:=(dK _ _).1 hh
     by_cases er:r=p
     ·subst er;rw[aG]at a;cases a
     ·rw[aC _ _ _ _ er]at a b
      exact absurd (h.one i i F F r p hi hi hr hp a hF (by rw[b,hf])) er
   rw[h1,h2]at hc1
   rw[upd_same]
   simp only[b1,Bool.false_eq_true,if_false,if_true]at hc1 ⊢
   omega
  ·have h1:dY (some (aJ F p z0)) g=dY (D i) g:=by
    rw[hi]
    exact kI (fun hh=>by omega) (fun hh=>by cases hh.1)
   rw[h1]at hc1
   rw[aF _ _ _ _ e]
   omega
 ·obtain⟨K',a1,a2,a3,_⟩:=hpg hj hr hK
  rw[a2];exact h.perm j K' r a1 hr a3
 ·obtain⟨K',a1,a2,a3,a4⟩:=hpg hj hr hK
  rw[a2]at hw ⊢
  have he:=h.excl j K' r a1 hr a3 hw
  obtain⟨g,hg,_,_,_⟩:=h.held a1 hr a3
  rw[hg,Int.toNat_natCast]at he ⊢
  by_cases e:g=f'
  ·subst e
   have er:=h.one j i K' F r p a1 hi hr hp a3 hF (by rw[hg,hf])
   have hji:j≠i:=fun e2=>a4 ⟨e2,er⟩
   have h1:dY (D i) g=true:=by rw[hi];exact(dK _ _).2 ⟨p,hp,hF,hf⟩
   have h2:dY (D j) g=true:=by rw[a1];exact(dK _ _).2 ⟨r,hr,a3,hg⟩
   have:=BI (f:=fun l=>b1 (dY (D l) g)) hid (h.pid j K' a1) hji
   rw[←h.cnt g,he,h1,h2]at this
   simp[b1]at this
  ·rw[aF _ _ _ _ e];exact he
 ·rw[h.kH j]
  unfold xX
  by_cases e:j=i
  ·subst e;rw[aQ,if_pos rfl,sN];omega
  ·rw[aI _ _ _ e,if_neg e]
 ·split
  ·omega
  ·omega
theorem J.share(h:J n q c D Q Lb ow P){i:Int}{F:Sp}(hi:D i=some F){p f:Nat}(hp:p<1024)(hF:(F p).1=false){j0:Int}{K0:Sp}(hj0:D j0=some K0)(hK0:(K0 p).1=true)(hf:(K0 p).2.2.2=(f:Int))(hno:∀j K,D j=some K→(K p).1=true→(K p).2.2.2=(f:Int)→(K p).2.1=false){k:Bool}(hP:P i p=some k)(ho:1+newT F p≤ow i):
  J n q (c-newT F p) (aT D i (some (aJ F p (true,false,k,(f:Int))))) (upd Q f (Q f+1)) Lb (zB ow i (1+newT F p)) P:=by
 have hid:=h.pid i F hi
 have hc:=h.ow1 i
 obtain⟨f',hf',hfn,JV,_⟩:=h.held hj0 hp hK0
 obtain rfl:f'=f:=by omega
 have hlow:=h.low
 have hex:=zS Q f' (Q f'+1) (k:=1024) (by omega)
 have hs:=ug (D:=D) hid (some (aJ F p (true,false,k,(f':Int))))
 have sN:eO (some (aJ F p (true,false,k,(f':Int))))=eO (D i)+1+newT F p:=by rw[hi];exact tY hp hF rfl
 have hsum:=h.sum
 have hok:nA true false k (f':Int)=true:=by
  unfold nA
  simp;omega
 have hat:∀j K r,D j=some K→r<1024→(K r).1=true→(K r).2.2.2=(f':Int)→r=p:=fun j K r hj hr hK e=>h.one j j0 K K0 r p hj hj0 hr hp hK hK0 (by rw[e,hf])
 have hpg:∀{j:Int} {K:Sp} {r:Nat},aT D i (some (aJ F p (true,false,k,(f':Int)))) j=some K→r<1024→(K r).1=true→(j=i∧r=p∧K r=(true,false,k,(f':Int)))∨(∃K',D j=some K'∧K r=K' r∧(K' r).1=true):=fun {j K r} hj hr hK=>by
  rcases fD hj with⟨rfl,rfl⟩|⟨_,hj⟩
  ·by_cases e:r=p
   ·subst e;exact Or.inl ⟨rfl,rfl,aG _ _ _⟩
   ·rw[aC _ _ _ _ e]at hK ⊢;exact Or.inr ⟨F,hi,rfl,hK⟩
  ·exact Or.inr ⟨K,hj,rfl,hK⟩
 refine⟨fun j K hj=>?_,fun j K r hj=>?_,fun j l K M r s hj hl hr hs' hK hM he=>?_,fun g=>?_,fun j K r hj hr hK=>?_,fun j K r hj hr hK hw=>?_,fun j=>?_,h.tree,?_,h.low⟩
 ·rcases fD hj with⟨rfl,_⟩|⟨_,hj⟩
  ·exact hid
  ·exact h.pid j K hj
 ·rcases fD hj with⟨rfl,rfl⟩|⟨_,hj⟩
  ·by_cases e:r=p
   ·subst e;rw[aG];exact Or.inr ⟨rfl,by simp only;omega,hok⟩
   ·rw[aC _ _ _ _ e];exact h.fit j F r hi
  ·exact h.fit j K r hj
 ·rcases hpg hj hr hK with⟨_,e1,e2⟩|⟨K',a1,a2,a3⟩
  ·rcases hpg hl hs' hM with⟨_,e3,_⟩|⟨M',b1',b2,b3⟩
   ·omega
   ·rw[e2,b2]at he
    rw[e1];exact(hat l M' s b1' hs' b3 he.symm).symm
  ·rcases hpg hl hs' hM with⟨_,e3,e4⟩|⟨M',b1',b2,b3⟩
   ·rw[a2,e4]at he
    rw[e3];exact hat j K' r a1 hr a3 he
   ·rw[a2,b2]at he
    exact h.one j l K' M' r s a1 b1' hr hs' a3 b3 he
 ·have hc1:=uf h.cnt hid (some (aJ F p (true,false,k,(f':Int)))) g
  by_cases e:g=f'
  ·subst e
   have h1:dY (D i) g=false:=by
    rw[hi]
    cases hh:BH F g with
    |false=>exact hh
    |true=>
     obtain⟨r,hr,a,b⟩:=(dK _ _).1 hh
     have:=hat i F r hi hr a b
     rw[this,hF]at a;cases a
   have h2:dY (some (aJ F p (true,false,k,(g:Int)))) g=true:=sM hp ⟨rfl,rfl⟩
   rw[h1,h2]at hc1
   rw[upd_same]
   simp only[b1,Bool.false_eq_true,if_false,if_true]at hc1 ⊢
   omega
  ·have h1:dY (some (aJ F p (true,false,k,(f':Int)))) g=dY (D i) g:=by
    rw[hi]
    exact kI (by rw[hF];simp) (by simp only[true_and];omega)
   rw[h1]at hc1
   rw[aF _ _ _ _ e]
   omega
 ·rcases hpg hj hr hK with⟨rfl,rfl,e2⟩|⟨K',a1,a2,a3⟩
  ·rw[e2];simpa using hP
  ·rw[a2];exact h.perm j K' r a1 hr a3
 ·rcases hpg hj hr hK with⟨rfl,rfl,e2⟩|⟨K',a1,a2,a3⟩
  ·rw[e2]at hw;cases hw
  ·rw[a2]at hw ⊢
   obtain⟨g,hg,_,_,_⟩:=h.held a1 hr a3
   have he:=h.excl j K' r a1 hr a3 hw
   rw[hg,Int.toNat_natCast]at he ⊢
   by_cases e:g=f'
   ·subst e
    have er:=hat j K' r a1 hr a3 hg
    subst er
    rw[hno j K' a1 a3 hg]at hw;cases hw
   ·rw[aF _ _ _ _ e];exact he
 ·rw[h.kH j]
  unfold zB
  by_cases e:j=i
  ·subst e;rw[aQ,if_pos rfl,sN];omega
  ·rw[aI _ _ _ e,if_neg e]
 ·omega
theorem EM(D:Int→Option Sp)(i:Int)(u v:Option Sp):aT (aT D i u) i v=aT D i v:=by
 funext j;unfold aT;split<;>rfl
theorem QC(D:Int→Option Sp){i j:Int}(h:i≠j)(u v:Option Sp):aT (aT D i u) j v=aT (aT D j v) i u:=by
 funext k;unfold aT
 by_cases e1:k=j
 ·subst e1;rw[if_pos rfl,if_neg (fun e=>h e.symm),if_pos rfl]
 ·rw[if_neg e1,if_neg e1]
theorem QD(ow:Int→Nat)(i:Int)(v:Nat):zB (xX ow i v) i v=ow:=by
 funext j;unfold zB xX;split<;>omega
theorem U5(Q:Nat→Nat){x y:Nat}(h:x≠y)(u v:Nat):upd (upd Q x u) y v=upd (upd Q y v) x u:=by
 funext j;unfold upd
 by_cases e:j=y
 ·subst e;rw[if_pos rfl,if_neg (fun e=>h e.symm),if_pos rfl]
 ·rw[if_neg e,if_neg e]
theorem J.dup(h:J n q c D Q Lb ow P){i:Int}{F:Sp}(hi:D i=some F){p f x:Nat}(hp:p<1024)(hF:(F p).1=true)(hf:(F p).2.2.2=(f:Int))(hP:P i p=some true)(hQ:1<Q f)(hx:Q x=0)(hxn:x<n):
  J n q (c-1) (aT D i (some (aJ F p (true,true,false,(x:Int))))) (upd (upd Q x 1) f (Q f-1)) Lb ow P:=by
 have hne:x≠f:=by rintro rfl;omega
 have h1:=h.drop hi hp hF hf
 rw[if_neg (by omega)]at h1
 have h2:=h1.touch (i:=i) (F:=aJ F p z0) (aQ _ _ _) (p:=p) (x:=x) hp (by rw[aG];rfl) (by rw[aF _ _ _ _ hne];exact hx) hxn (w:=true) (k:=false) (Or.inr rfl) hP (by unfold xX;rw[if_pos rfl];omega)
 rw[EM,tZ,QD,U5 Q (fun e=>hne e.symm)]at h2
 have e:c+newT (aJ F p z0) p+0-1-newT (aJ F p z0) p=c-1:=by omega
 rwa [e]at h2
theorem J.open_(h:J n q c D Q Lb ow P){i:Int}(hi:D i=none)(hid:1≤i∧i≤8)(ho:1≤ow i):J n q (c-1) (aT D i (some qg)) Q Lb (zB ow i 1) P:=by
 have hc:=h.ow1 i
 have hs:=ug (D:=D) hid (some qg)
 have sN:eO (some qg)=eO (D i)+1:=by rw[hi];exact JL
 have hsum:=h.sum
 have hpg:∀{j:Int} {K:Sp} {r:Nat},aT D i (some qg) j=some K→r<1024→(K r).1=true→D j=some K:=fun {j K r} hj hr hK=>by
  rcases fD hj with⟨rfl,rfl⟩|⟨_,hj⟩
  ·cases hK
  ·exact hj
 refine⟨fun j K hj=>?_,fun j K r hj=>?_,fun j l K M r s hj hl hr hs' hK hM he=>h.one j l K M r s (hpg hj hr hK) (hpg hl hs' hM) hr hs' hK hM he,fun g=>?_,fun j K r hj hr hK=>h.perm j K r (hpg hj hr hK) hr hK,fun j K r hj hr hK hw=>h.excl j K r (hpg hj hr hK) hr hK hw,fun j=>?_,h.tree,by omega,h.low⟩
 ·rcases fD hj with⟨rfl,_⟩|⟨_,hj⟩
  ·exact hid
  ·exact h.pid j K hj
 ·rcases fD hj with⟨rfl,rfl⟩|⟨_,hj⟩
  ·exact Or.inl rfl
  ·exact h.fit j K r hj
 ·have hc1:=uf h.cnt hid (some qg) g
  have h1:dY (some qg) g=false:=BJ (fun _ _=>rfl) g
  rw[h1,hi]at hc1
  exact hc1.symm
 ·rw[h.kH j]
  unfold zB
  by_cases e:j=i
  ·subst e;rw[aQ,if_pos rfl,sN];omega
  ·rw[aI _ _ _ e,if_neg e]
theorem J.close(h:J n q c D Q Lb ow P){i:Int}{F:Sp}(hi:D i=some F)(hF:∀p,p<1024→(F p).1=false):J n q (c+1) (aT D i none) Q Lb (xX ow i 1) P:=by
 have hid:=h.pid i F hi
 have hs:=ug (D:=D) hid none
 have sN:eO (D i)=eO none+1:=by rw[hi];exact JW hF
 have hsum:=h.sum
 have hpg:∀{j:Int} {K:Sp},aT D i none j=some K→D j=some K:=fun {j K} hj=>by
  by_cases e:j=i
  ·subst e;rw[aQ]at hj;cases hj
  ·rwa [aI _ _ _ e]at hj
 refine⟨fun j K hj=>h.pid j K (hpg hj),fun j K r hj=>h.fit j K r (hpg hj),fun j l K M r s hj hl hr hs' hK hM he=>h.one j l K M r s (hpg hj) (hpg hl) hr hs' hK hM he,fun g=>?_,fun j K r hj hr hK=>h.perm j K r (hpg hj) hr hK,fun j K r hj hr hK hw=>h.excl j K r (hpg hj) hr hK hw,fun j=>?_,h.tree,by omega,h.low⟩
 ·have hc1:=uf h.cnt hid none g
  have h1:dY (D i) g=false:=by rw[hi];exact BJ hF g
  rw[h1]at hc1
  exact hc1.symm
 ·rw[h.kH j]
  unfold xX
  by_cases e:j=i
  ·subst e;rw[aQ,if_pos rfl,sN];omega
  ·rw[aI _ _ _ e,if_neg e]
end
end
end Go.Proofs.YtammlljefhakmaaGreatDoor
