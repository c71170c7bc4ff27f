/- Helps of the proof. No condition. -/
import Derived.Test.YtammlljefhakmaaGreatDoorGN
import Derived.Test.YtammlljefhakmaaGreatDoorGNL
namespace Go.Proofs.YtammlljefhakmaaGreatDoor
open Go.RowKit
set_option maxRecDepth 100000
theorem Dr{p x c:Bool}{g:Int}(h:nA p x c g=true):decode (fq p x c g)=some (p,x,c,g):=by
 obtain⟨h0,h1,_⟩:=zM h
 have e1:fq p x c g%2=bit p:=by unfold fq;have:=jA p;have:=jB p;omega
 have e2:fq p x c g/2%2=bit x:=by unfold fq;have:=jA p;have:=jB p;have:=jA x;have:=jB x;omega
 have e3:fq p x c g/4%2=bit c:=by unfold fq;have:=jA p;have:=jB p;have:=jA x;have:=jB x;have:=jA c;have:=jB c;omega
 have e4:fq p x c g/256%1024=g:=by unfold fq;have:=jA p;have:=jB p;have:=jA x;have:=jB x;have:=jA c;have:=jB c;omega
 have b:∀b:Bool,decide (bit b=1)=b:=by intro b;cases b<;>rfl
 unfold decode
 simp only[e1,e2,e3,e4,b,h,true_and,if_true]
theorem jP{n:Nat}{L:List Int}{f q:Nat}(hf:f<n)(hq:q<32):dO n L (f:Int) (q:Int)=(match decode (L.getD (f*32+q) 0)with|some e=>if e.2.2.2<(n:Int)then some e else none|none=>none):=by
 unfold dO
 rw[if_pos ⟨by omega,by omega,by omega,by omega⟩]
 rfl
theorem iH(L:List Int)(f q:Nat)(e:fK):(kE L f q e).length=L.length:=by simp[kE]
theorem iI{n:Nat}{L:List Int}{f q:Nat}{e:fK}(hl:L.length=n*32)(hf:f<n)(hq:q<32)(hok:nA e.1 e.2.1 e.2.2.1 e.2.2.2=true)(hg:e.2.2.2<n):dO n (kE L f q e) (f:Int) (q:Int)=some e:=by
 rw[jP hf hq,kE,lu _ _ _ _ (by rw[hl];omega),if_pos rfl,Dr hok]
 simp only[hg,if_true]
theorem bP{n:Nat}{L:List Int}{f q f' q':Nat}{e:fK}(hl:L.length=n*32)(hf:f<n)(hq:q<32)(hf':f'<n)(hq':q'<32)(hne:f'≠f∨q'≠q):dO n (kE L f q e) (f':Int) (q':Int)=dO n L (f':Int) (q':Int):=by
 rw[jP hf' hq',jP hf' hq',kE,lu _ _ _ _ (by rw[hl];omega),if_neg (by omega)]
theorem nM(L:List Int)(f i:Nat)(hf:f*32+32≤L.length):(putRow L f zeros).getD i 0=if f*32≤i∧i<f*32+32 then 0 else L.getD i 0:=by
 have hl:(L.take (f*32)).length=f*32:=by rw[List.length_take];omega
 simp only[putRow,zeros,List.getD_eq_getElem?_getD]
 by_cases h1:i<f*32
 ·rw[List.append_assoc,List.getElem?_append_left (by rw[hl];exact h1),List.getElem?_take,if_pos h1,if_neg (by omega)]
 ·by_cases h2:i<f*32+32
  ·rw[List.append_assoc,List.getElem?_append_right (by rw[hl];omega),hl,List.getElem?_append_left (by simp;omega),if_pos ⟨by omega,h2⟩,List.getElem?_replicate,if_pos (by omega)];rfl
  ·rw[List.append_assoc,List.getElem?_append_right (by rw[hl];omega),hl,List.getElem?_append_right (by simp;omega),if_neg (by omega),List.getElem?_drop,List.length_replicate,show f*32+32+(i-f*32-32)=i by omega]
theorem sH{n:Nat}{L:List Int}{f q:Nat}(hl:L.length=n*32)(hf:f<n)(hq:q<32):dO n (putRow L f zeros) (f:Int) (q:Int)=some z0:=by
 rw[jP hf hq,nM _ _ _ (by rw[hl];omega),if_pos ⟨by omega,by omega⟩,yV]
 have:z0.2.2.2<(n:Int):=by simp[z0];omega
 simp only[this,if_true]
theorem jo{n:Nat}{L:List Int}{f f' q':Nat}(hl:L.length=n*32)(hf:f<n)(hf':f'<n)(hq':q'<32)(hne:f'≠f):dO n (putRow L f zeros) (f':Int) (q':Int)=dO n L (f':Int) (q':Int):=by
 rw[jP hf' hq',jP hf' hq',nM _ _ _ (by rw[hl];omega),if_neg (by omega)]
abbrev Sp:=Nat→fK
def mG(n:Nat)(e:fK):Prop:=e.1=true∧e.2.2.2<(n:Int)∧nA e.1 e.2.1 e.2.2.1 e.2.2.2=true
def hasB(F:Sp)(i:Nat):Bool:=(List.range 32).any fun j=>(F (32*i+j)).1
theorem jk(F:Sp)(i:Nat):hasB F i=true↔∃j,j<32∧(F (32*i+j)).1=true:=by simp[hasB]
def aJ(F:Sp)(p:Nat)(e:fK):Sp:=fun q=>if q=p then e else F q
theorem aG(F:Sp)(p:Nat)(e:fK):aJ F p e p=e:=by simp[aJ]
theorem aC(F:Sp)(p:Nat)(e:fK)(q:Nat)(h:q≠p):aJ F p e q=F q:=by simp[aJ,h]
def jX{α:Type}(W:Nat→Option α)(r:Nat)(v:Option α):Nat→Option α:=fun x=>if x=r then v else W x
theorem aP{α:Type}(W:Nat→Option α)(r:Nat)(v:Option α):jX W r v r=v:=by simp[jX]
theorem ak{α:Type}(W:Nat→Option α)(r:Nat)(v:Option α)(x:Nat)(h:x≠r):jX W r v x=W x:=by simp[jX,h]
theorem nN(F:Sp)(p:Nat)(e:fK)(i:Nat)(h:i≠p/32):hasB (aJ F p e) i=hasB F i:=by
 have:∀j,j<32→aJ F p e (32*i+j)=F (32*i+j):=fun j hj=>aC _ _ _ _ (by omega)
 rw[Bool.eq_iff_iff,jk,jk]
 exact⟨fun⟨j,h1,h2⟩=>⟨j,h1,by rw[←this j h1];exact h2⟩,fun⟨j,h1,h2⟩=>⟨j,h1,by rw[this j h1];exact h2⟩⟩
theorem wB(F:Sp)(p:Nat)(e:fK)(h:e.1=true):hasB (aJ F p e) (p/32)=true:=
 (jk _ _).2 ⟨p%32,by omega,by rw[show 32*(p/32)+p%32=p by omega,aG];exact h⟩
theorem Yk{F:Sp}{p:Nat}(h:(F p).1=true):hasB F (p/32)=true:=
 (jk _ _).2 ⟨p%32,by omega,by rw[show 32*(p/32)+p%32=p by omega];exact h⟩
abbrev Own:=Nat→Option (Nat×Option Nat)
structure Inv(n m:Nat)(L:List Int)(R:Nat→Nat)(S:Nat→Bool)(W:Nat→Option Sp)(O:Own):Prop where
 len:L.length=n*32
 nm:n=m+2
 top:n≤1024
 sp:∀r:Nat,S r=(W r).isSome
 root:∀(r:Nat) (F:Sp),W r=some F→r<m∧O r=some (r,none)
 yes:∀(r:Nat) (F:Sp) (i:Nat),W r=some F→i<32→hasB F i=true→∃g:Nat,g<m∧O g=some (r,some i)∧dO n L (r:Int) (i:Int)=some (true,false,false,(g:Int))∧∀j:Nat,j<32→dO n L (g:Int) (j:Int)=some (F (32*i+j))
 no:∀(r:Nat) (F:Sp) (i:Nat),W r=some F→i<32→hasB F i=false→dO n L (r:Int) (i:Int)=some z0
 fit:∀(r:Nat) (F:Sp) (p:Nat),W r=some F→F p=z0∨mG n (F p)
 held:∀f:Nat,R f=if(O f).isSome then 1 else 0
 low:∀f:Nat,(O f).isSome→f<m
end Go.Proofs.YtammlljefhakmaaGreatDoor
namespace Go.Proofs.YtammlljefhakmaaGreatDoor
open Go.RowKit
set_option maxRecDepth 100000
theorem GQ{n:Nat}{e:fK}(hn:0<n)(h:e=z0∨mG n e):nA e.1 e.2.1 e.2.2.1 e.2.2.2=true∧e.2.2.2<n:=by
 rcases h with rfl|h
 ·exact⟨by decide,by simp[z0];omega⟩
 ·exact⟨h.2.2,h.2.1⟩
end Go.Proofs.YtammlljefhakmaaGreatDoor
namespace Go.Proofs.YtammlljefhakmaaGreatDoor
open Go.RowKit
set_option maxRecDepth 100000
theorem Ms{n:Nat}{L:List Int}{t:Int}{k j:Nat}(hj:j<k)(hp:(lg n L t (j:Int)).1=true):((j:Int),lg n L t (j:Int))∈cu n L t k:=by
 induction k with
 |zero=>omega
 |succ k ih=>
  simp only[cu,List.mem_append]
  by_cases e:j=k
  ·subst e;right;rw[if_pos hp];simp
  ·exact Or.inl (ih (by omega))
theorem EA(n:Nat)(L:List Int)(t:Int):mF n L t=true↔∀j:Nat,j<32→(lg n L t (j:Int)).1=false:=by
 unfold mF gX
 rw[List.isEmpty_iff]
 constructor
 ·intro h j hj
  cases hp:(lg n L t (j:Int)).1 with
  |false=>rfl
  |true=>have:=Ms (k:=32) hj hp;rw[h]at this;simp at this
 ·intro h
  rw[List.eq_nil_iff_forall_not_mem]
  intro x hx
  obtain⟨j,hj,_,hp⟩:=qB n L t 32 x hx
  rw[h j hj]at hp;cases hp
end Go.Proofs.YtammlljefhakmaaGreatDoor
namespace Go.Proofs.YtammlljefhakmaaGreatDoor
open Go.RowKit
set_option maxRecDepth 100000
def lD(W:Nat→Option Sp)(r:Int):Option Sp:=if 0≤r then W r.toNat else none
theorem gI(W:Nat→Option Sp)(r:Nat):lD W (r:Int)=W r:=by simp[lD]
theorem pR{W:Nat→Option Sp}{r:Int}{F:Sp}(h:lD W r=some F):∃k:Nat,r=(k:Int)∧W k=some F:=by
 unfold lD at h
 split at h
 ·exact⟨r.toNat,by omega,h⟩
 ·cases h
def cB(W:Nat→Option Sp)(r pg:Int)(fine:Bool):Int:=if(0≤pg∧pg<1024)∧fine=true then(if(lD W r).isSome then 0 else 4)else 2
def sI(n:Nat)(e:fK):Bool:=Jt n e.1 e.2.1 e.2.2.1 e.2.2.2
theorem wC(n:Nat)(e:fK):sI n e=true↔mG n e:=by
 unfold sI Jt mG
 simp only[Bool.and_eq_true,decide_eq_true_eq]
theorem wD{pg:Int}(h:0≤pg∧pg<1024):kF pg=0:=by unfold kF;rw[if_pos h]
theorem JF{pg:Int}(h:¬(0≤pg∧pg<1024)):kF pg=2:=by unfold kF;rw[if_neg h]
theorem NM{n:Nat}{e:fK}(h:sI n e=true):oO n e.1 e.2.1 e.2.2.1 e.2.2.2=0:=by unfold oO;rw[show Jt n e.1 e.2.1 e.2.2.1 e.2.2.2=true from h];rfl
theorem UN{n:Nat}{e:fK}(h:sI n e=false):oO n e.1 e.2.1 e.2.2.1 e.2.2.2=2:=by unfold oO;rw[show Jt n e.1 e.2.1 e.2.2.1 e.2.2.2=false from h];rfl
theorem qE{W:Nat→Option Sp}{r pg:Int}{b:Bool}(h:¬((0≤pg∧pg<1024)∧b=true)):cB W r pg b=2:=by unfold cB;rw[if_neg h]
theorem EB{W:Nat→Option Sp}{r pg:Int}{b:Bool}(h:(0≤pg∧pg<1024)∧b=true)(hs:(lD W r).isSome=false):cB W r pg b=4:=by unfold cB;rw[if_pos h,hs];rfl
theorem Bo{W:Nat→Option Sp}{r pg:Int}{b:Bool}(h:(0≤pg∧pg<1024)∧b=true)(hs:(lD W r).isSome=true):cB W r pg b=0:=by unfold cB;rw[if_pos h,hs];rfl
theorem UO(k:Int):aO [k]=k:=by by_cases hk:k=0<;>simp[aO,hk]
theorem oz{W:Nat→Option Sp}{r pg:Int}{b:Bool}(h:cB W r pg b=0):∃(k p:Nat) (F:Sp),r=(k:Int)∧pg=(p:Int)∧p<1024∧W k=some F∧b=true∧lD W r=some F:=by
 unfold cB at h
 split at h
 ·rename_i hh
  split at h
  ·rename_i hs
   obtain⟨F,hF⟩:=Option.isSome_iff_exists.1 hs
   obtain⟨k,hk,hw⟩:=pR hF
   exact⟨k,pg.toNat,F,hk,by omega,by omega,hw,hh.2,hF⟩
  ·cases h
 ·cases h
def lF(n:Nat)(W:Nat→Option Sp)(left:Nat)(r pg:Int)(e:fK):Int:=
 if cB W r pg (sI n e)=0 then
  (match lD W r with
  |none=>0
  |some F=>if(F pg.toNat).1=true then 5 else if hasB F (pg.toNat/32)=false∧left=0 then 3 else 0)
 else cB W r pg (sI n e)
def uW(W:Nat→Option Sp)(r pg:Int)(e:fK):Nat→Option Sp:=jX W r.toNat ((lD W r).map fun F=>aJ F pg.toNat e)
def needs(W:Nat→Option Sp)(r pg:Int):Nat:=match lD W r with
 |none=>0
 |some F=>if hasB F (pg.toNat/32)=true then 0 else 1
theorem UQ(p:Nat):((p:Int)/32)=((p/32:Nat):Int):=by omega
theorem Bp(p:Nat):((p:Int)%32)=((p%32:Nat):Int):=by omega
theorem sJ(L:List Int)(f q:Nat)(e:fK):mZ L (f:Int) (q:Int) e=kE L f q e:=by simp[mZ]
def iX(n:Nat)(W:Nat→Option Sp)(r pg:Int)(e:fK):Int:=
 if cB W r pg (sI n e)=0 then
  (match lD W r with
  |none=>0
  |some F=>if(F pg.toNat).1=true then 0 else 4)
 else cB W r pg (sI n e)
end Go.Proofs.YtammlljefhakmaaGreatDoor
namespace Go.Proofs.YtammlljefhakmaaGreatDoor
open Go.RowKit
set_option maxRecDepth 100000
def dX(W:Nat→Option Sp)(r pg:Int):Int:=
 if cB W r pg true=0 then
  (match lD W r with
  |none=>0
  |some F=>if(F pg.toNat).1=true then 0 else 4)
 else cB W r pg true
def JG(W:Nat→Option Sp)(r pg:Int):fK:=match lD W r with
 |none=>z0
 |some F=>F pg.toNat
def frees(W:Nat→Option Sp)(r pg:Int):Nat:=match lD W r with
 |none=>0
 |some F=>if hasB (aJ F pg.toNat z0) (pg.toNat/32)=true then 0 else 1
theorem y9{W:Nat→Option Sp}{r pg:Int}(h:dX W r pg=0):∃(k p:Nat) (F:Sp),r=(k:Int)∧pg=(p:Int)∧p<1024∧W k=some F∧lD W r=some F∧(F p).1=true:=by
 unfold dX at h
 by_cases h0:cB W r pg true=0
 ·obtain⟨k,p,F,rfl,rfl,hp,hw,_,hF⟩:=oz h0
  rw[if_pos h0,hF]at h
  refine⟨k,p,F,rfl,rfl,hp,hw,hF,?_⟩
  by_cases hx:(F p).1=true
  ·exact hx
  ·simp[hx]at h
 ·rw[if_neg h0]at h;exact absurd h h0
def xP(F:Sp):Bool:=(List.range 32).all fun i=> !hasB F i
theorem Bq(F:Sp):xP F=true↔∀i,i<32→hasB F i=false:=by simp[xP]
def kG(W:Nat→Option Sp)(r:Int):Int:=match lD W r with
 |none=>4
 |some F=>if xP F=true then 0 else 9
def uX(F:Sp)(a:Nat):Nat→List sF
 |0=>[]
 |k+1=>uX F a k++(if(F (a+k)).1=true then[(((a+k:Nat):Int),F (a+k))]else[])
theorem JH(F:Sp)(a b:Nat):∀c,uX F a (b+c)=uX F a b++uX F (a+b) c
 |0=>by simp[uX]
 |c+1=>by
  rw[←Nat.add_assoc,uX,JH F a b c,uX,List.append_assoc,Nat.add_assoc]
theorem EC(F:Sp)(a:Nat):∀c,(∀j,j<c→(F (a+j)).1=false)→uX F a c=[]
 |0,_=>rfl
 |c+1,h=>by rw[uX,EC F a c (fun j hj=>h j (by omega)),h c (by omega)];rfl
def Mt(F:Sp):List sF:=uX F 0 1024
def uY(F:Sp):Nat:=1+((List.range 32).filter (hasB F)).length
def Js(W:Nat→Option Sp)(r:Int):Nat:=match lD W r with
 |none=>0
 |some F=>uY F
def Yl(W:Nat→Option Sp)(r:Int):List sF:=match lD W r with
 |none=>[]
 |some F=>Mt F
end Go.Proofs.YtammlljefhakmaaGreatDoor
namespace Go.Proofs.YtammlljefhakmaaGreatDoor
open Go.RowKit Go.Maps
set_option maxRecDepth 100000
section
variable {W0 w:World} {tb sb n m c:Nat} {X:bA} {W:Nat→Option Sp}
def abd(n c:Nat)(W:Nat→Option Sp)(r pg:Int)(e:fK):Nat:=if lF n W c r pg e=0 then c-needs W r pg else c
def abe(n c:Nat)(W:Nat→Option Sp)(r pg:Int)(e:fK):Nat→Option Sp:=if lF n W c r pg e=0 then uW W r pg e else W
def setW(n:Nat)(W:Nat→Option Sp)(r pg:Int)(e:fK):Nat→Option Sp:=if iX n W r pg e=0 then uW W r pg e else W
def abf(c:Nat)(W:Nat→Option Sp)(r pg:Int):Nat:=if dX W r pg=0 then c+frees W r pg else c
def abg(W:Nat→Option Sp)(r pg:Int):Nat→Option Sp:=if dX W r pg=0 then uW W r pg z0 else W
def Br(W:Nat→Option Sp)(r pg:Int):fK:=if dX W r pg=0 then JG W r pg else z0
def abh(c:Nat)(W:Nat→Option Sp)(r:Int):Nat:=if kG W r=0 then c+1 else c
def abj(W:Nat→Option Sp)(r:Int):Nat→Option Sp:=if kG W r=0 then jX W r.toNat none else W
end
end Go.Proofs.YtammlljefhakmaaGreatDoor
namespace Go.Proofs.YtammlljefhakmaaGreatDoor
open Go.RowKit Go.Maps
set_option maxRecDepth 100000
section
variable {n c:Nat} {W:Nat→Option Sp} {r:Int} {F:Sp} {p:Nat} {e:fK}
end
end Go.Proofs.YtammlljefhakmaaGreatDoor
