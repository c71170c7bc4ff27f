/- Helps of the proof. No condition. -/
import Derived.Test.YtammlljefhakmaaGreatDoorGN
import Derived.Test.YtammlljefhakmaaGreatDoorGNL
namespace Go.Proofs.YtammlljefhakmaaGreatDoor
open Go.RowKit
set_option maxRecDepth 100000
theorem En{p x c:Bool}{g:Int}(h:nM p x c g=true):decode (fu p x c g)=some (p,x,c,g):=by
 obtain⟨h0,h1,_⟩:=Ao h
 have e1:fu p x c g%2=bit p:=by unfold fu;have:=jG p;have:=jH p;omega
 have e2:fu p x c g/2%2=bit x:=by unfold fu;have:=jG p;have:=jH p;have:=jG x;have:=jH x;omega
 have e3:fu p x c g/4%2=bit c:=by unfold fu;have:=jG p;have:=jH p;have:=jG x;have:=jH x;have:=jG c;have:=jH c;omega
 have e4:fu p x c g/256%1024=g:=by unfold fu;have:=jG p;have:=jH p;have:=jG x;have:=jH x;have:=jG c;have:=jH c;omega
 have b:∀b:Bool,decide (bit b=1)=b:=by intro b;cases b<;>rfl
 unfold decode
 simp only[e1,e2,e3,e4,b,h,true_and,if_true]
theorem jW{n:Nat}{L:List Int}{f q:Nat}(hf:f<n)(hq:q<32):dV n L (f:Int) (q:Int)=(match decode (L.getD (f*32+q) 0)with|some e=>if e.2.2.2<(n:Int)then some e else none|none=>none):=by
 unfold dV
 rw[if_pos ⟨by omega,by omega,by omega,by omega⟩]
 rfl
theorem iL(L:List Int)(f q:Nat)(e:fQ):(kK L f q e).length=L.length:=by simp[kK]
theorem iM{n:Nat}{L:List Int}{f q:Nat}{e:fQ}(hl:L.length=n*32)(hf:f<n)(hq:q<32)(hok:nM e.1 e.2.1 e.2.2.1 e.2.2.2=true)(hg:e.2.2.2<n):dV n (kK L f q e) (f:Int) (q:Int)=some e:=by
 rw[jW hf hq,kK,lF _ _ _ _ (by rw[hl];omega),if_pos rfl,En hok]
 simp only[hg,if_true]
theorem bQ{n:Nat}{L:List Int}{f q f' q':Nat}{e:fQ}(hl:L.length=n*32)(hf:f<n)(hq:q<32)(hf':f'<n)(hq':q'<32)(hne:f'≠f∨q'≠q):dV n (kK L f q e) (f':Int) (q':Int)=dV n L (f':Int) (q':Int):=by
 rw[jW hf' hq',jW hf' hq',kK,lF _ _ _ _ (by rw[hl];omega),if_neg (by omega)]
theorem nW(L:List Int)(f i:Nat)(hf:f*32+32≤L.length):(putRow L f zeros).getD i 0=if f*32≤i∧i<f*32+32 then 0 else L.getD i 0:=by
 have hl:(L.take (f*32)).length=f*32:=by rw[List.length_take];omega
 simp only[putRow,zeros,List.getD_eq_getElem?_getD]
 by_cases h1:i<f*32
 ·rw[List.append_assoc,List.getElem?_append_left (by rw[hl];exact h1),List.getElem?_take,if_pos h1,if_neg (by omega)]
 ·by_cases h2:i<f*32+32
  ·rw[List.append_assoc,List.getElem?_append_right (by rw[hl];omega),hl,List.getElem?_append_left (by simp;omega),if_pos ⟨by omega,h2⟩,List.getElem?_replicate,if_pos (by omega)];rfl
  ·rw[List.append_assoc,List.getElem?_append_right (by rw[hl];omega),hl,List.getElem?_append_right (by simp;omega),if_neg (by omega),List.getElem?_drop,List.length_replicate,show f*32+32+(i-f*32-32)=i by omega]
theorem sZ{n:Nat}{L:List Int}{f q:Nat}(hl:L.length=n*32)(hf:f<n)(hq:q<32):dV n (putRow L f zeros) (f:Int) (q:Int)=some z0:=by
 rw[jW hf hq,nW _ _ _ (by rw[hl];omega),if_pos ⟨by omega,by omega⟩,zJ]
 have:z0.2.2.2<(n:Int):=by simp[z0];omega
 simp only[this,if_true]
theorem jC{n:Nat}{L:List Int}{f f' q':Nat}(hl:L.length=n*32)(hf:f<n)(hf':f'<n)(hq':q'<32)(hne:f'≠f):dV n (putRow L f zeros) (f':Int) (q':Int)=dV n L (f':Int) (q':Int):=by
 rw[jW hf' hq',jW hf' hq',nW _ _ _ (by rw[hl];omega),if_neg (by omega)]
abbrev Sp:=Nat→fQ
def mU(n:Nat)(e:fQ):Prop:=e.1=true∧e.2.2.2<(n:Int)∧nM e.1 e.2.1 e.2.2.1 e.2.2.2=true
def hasB(F:Sp)(i:Nat):Bool:=(List.range 32).any fun j=>(F (32*i+j)).1
theorem jv(F:Sp)(i:Nat):hasB F i=true↔∃j,j<32∧(F (32*i+j)).1=true:=by simp[hasB]
def aI(F:Sp)(p:Nat)(e:fQ):Sp:=fun q=>if q=p then e else F q
theorem aC(F:Sp)(p:Nat)(e:fQ):aI F p e p=e:=by simp[aI]
theorem aA(F:Sp)(p:Nat)(e:fQ)(q:Nat)(h:q≠p):aI F p e q=F q:=by simp[aI,h]
def j6{α:Type}(W:Nat→Option α)(r:Nat)(v:Option α):Nat→Option α:=fun x=>if x=r then v else W x
theorem aQ{α:Type}(W:Nat→Option α)(r:Nat)(v:Option α):j6 W r v r=v:=by simp[j6]
theorem au{α:Type}(W:Nat→Option α)(r:Nat)(v:Option α)(x:Nat)(h:x≠r):j6 W r v x=W x:=by simp[j6,h]
theorem nX(F:Sp)(p:Nat)(e:fQ)(i:Nat)(h:i≠p/32):hasB (aI F p e) i=hasB F i:=by
 have:∀j,j<32→aI F p e (32*i+j)=F (32*i+j):=fun j hj=>aA _ _ _ _ (by omega)
 rw[Bool.eq_iff_iff,jv,jv]
 exact⟨fun⟨j,h1,h2⟩=>⟨j,h1,by rw[←this j h1];exact h2⟩,fun⟨j,h1,h2⟩=>⟨j,h1,by rw[this j h1];exact h2⟩⟩
theorem wS(F:Sp)(p:Nat)(e:fQ)(h:e.1=true):hasB (aI F p e) (p/32)=true:=
 (jv _ _).2 ⟨p%32,by omega,by rw[show 32*(p/32)+p%32=p by omega,aC];exact h⟩
theorem aaj{F:Sp}{p:Nat}(h:(F p).1=true):hasB F (p/32)=true:=
 (jv _ _).2 ⟨p%32,by omega,by rw[show 32*(p/32)+p%32=p by omega];exact h⟩
abbrev Own:=Nat→Option (Nat×Option Nat)
structure Inv(n m:Nat)(L:List Int)(R:Nat→Nat)(S:Nat→Bool)(W:Nat→Option Sp)(O:Own):Prop where
 len:L.length=n*32
 nm:n=m+2
 top:n≤1024
 sp:∀r:Nat,S r=(W r).isSome
 root:∀(r:Nat) (F:Sp),W r=some F→r<m∧O r=some (r,none)
 yes:∀(r:Nat) (F:Sp) (i:Nat),W r=some F→i<32→hasB F i=true→∃g:Nat,g<m∧O g=some (r,some i)∧dV n L (r:Int) (i:Int)=some (true,false,false,(g:Int))∧∀j:Nat,j<32→dV n L (g:Int) (j:Int)=some (F (32*i+j))
 no:∀(r:Nat) (F:Sp) (i:Nat),W r=some F→i<32→hasB F i=false→dV n L (r:Int) (i:Int)=some z0
 fit:∀(r:Nat) (F:Sp) (p:Nat),W r=some F→F p=z0∨mU n (F p)
 held:∀f:Nat,R f=if(O f).isSome then 1 else 0
 low:∀f:Nat,(O f).isSome→f<m
end Go.Proofs.YtammlljefhakmaaGreatDoor
namespace Go.Proofs.YtammlljefhakmaaGreatDoor
open Go.RowKit
set_option maxRecDepth 100000
theorem IJ{n:Nat}{e:fQ}(hn:0<n)(h:e=z0∨mU n e):nM e.1 e.2.1 e.2.2.1 e.2.2.2=true∧e.2.2.2<n:=by
 rcases h with rfl|h
 ·exact⟨by decide,by simp[z0];omega⟩
 ·exact⟨h.2.2,h.2.1⟩
end Go.Proofs.YtammlljefhakmaaGreatDoor
namespace Go.Proofs.YtammlljefhakmaaGreatDoor
open Go.RowKit
set_option maxRecDepth 100000
theorem NY{n:Nat}{L:List Int}{t:Int}{k j:Nat}(hj:j<k)(hp:(lD n L t (j:Int)).1=true):((j:Int),lD n L t (j:Int))∈cB n L t k:=by
 induction k with
 |zero=>omega
 |succ k ih=>
  simp only[cB,List.mem_append]
  by_cases e:j=k
  ·subst e;right;rw[if_pos hp];simp
  ·exact Or.inl (ih (by omega))
theorem FQ(n:Nat)(L:List Int)(t:Int):mR n L t=true↔∀j:Nat,j<32→(lD n L t (j:Int)).1=false:=by
 unfold mR gZ
 rw[List.isEmpty_iff]
 constructor
 ·intro h j hj
  cases hp:(lD n L t (j:Int)).1 with
  |false=>rfl
  |true=>have:=NY (k:=32) hj hp;rw[h]at this;simp at this
 ·intro h
  rw[List.eq_nil_iff_forall_not_mem]
  intro x hx
  obtain⟨j,hj,_,hp⟩:=qJ n L t 32 x hx
  rw[h j hj]at hp;cases hp
end Go.Proofs.YtammlljefhakmaaGreatDoor
namespace Go.Proofs.YtammlljefhakmaaGreatDoor
open Go.RowKit
set_option maxRecDepth 100000
def lH(W:Nat→Option Sp)(r:Int):Option Sp:=if 0≤r then W r.toNat else none
theorem gP(W:Nat→Option Sp)(r:Nat):lH W (r:Int)=W r:=by simp[lH]
theorem qc{W:Nat→Option Sp}{r:Int}{F:Sp}(h:lH W r=some F):∃k:Nat,r=(k:Int)∧W k=some F:=by
 unfold lH at h
 split at h
 ·exact⟨r.toNat,by omega,h⟩
 ·cases h
def cK(W:Nat→Option Sp)(r pg:Int)(fine:Bool):Int:=if(0≤pg∧pg<1024)∧fine=true then(if(lH W r).isSome then 0 else 4)else 2
def tq(n:Nat)(e:fQ):Bool:=KA n e.1 e.2.1 e.2.2.1 e.2.2.2
theorem wT(n:Nat)(e:fQ):tq n e=true↔mU n e:=by
 unfold tq KA mU
 simp only[Bool.and_eq_true,decide_eq_true_eq]
theorem wU{pg:Int}(h:0≤pg∧pg<1024):kL pg=0:=by unfold kL;rw[if_pos h]
theorem KR{pg:Int}(h:¬(0≤pg∧pg<1024)):kL pg=2:=by unfold kL;rw[if_neg h]
theorem Qb{n:Nat}{e:fQ}(h:tq n e=true):o7 n e.1 e.2.1 e.2.2.1 e.2.2.2=0:=by unfold o7;rw[show KA n e.1 e.2.1 e.2.2.1 e.2.2.2=true from h];rfl
theorem W9{n:Nat}{e:fQ}(h:tq n e=false):o7 n e.1 e.2.1 e.2.2.1 e.2.2.2=2:=by unfold o7;rw[show KA n e.1 e.2.1 e.2.2.1 e.2.2.2=false from h];rfl
theorem qM{W:Nat→Option Sp}{r pg:Int}{b:Bool}(h:¬((0≤pg∧pg<1024)∧b=true)):cK W r pg b=2:=by unfold cK;rw[if_neg h]
theorem FU{W:Nat→Option Sp}{r pg:Int}{b:Bool}(h:(0≤pg∧pg<1024)∧b=true)(hs:(lH W r).isSome=false):cK W r pg b=4:=by unfold cK;rw[if_pos h,hs];rfl
theorem Cj{W:Nat→Option Sp}{r pg:Int}{b:Bool}(h:(0≤pg∧pg<1024)∧b=true)(hs:(lH W r).isSome=true):cK W r pg b=0:=by unfold cK;rw[if_pos h,hs];rfl
theorem Xa(k:Int):aN [k]=k:=by by_cases hk:k=0<;>simp[aN,hk]
theorem oK{W:Nat→Option Sp}{r pg:Int}{b:Bool}(h:cK W r pg b=0):∃(k p:Nat) (F:Sp),r=(k:Int)∧pg=(p:Int)∧p<1024∧W k=some F∧b=true∧lH W r=some F:=by
 unfold cK at h
 split at h
 ·rename_i hh
  split at h
  ·rename_i hs
   obtain⟨F,hF⟩:=Option.isSome_iff_exists.1 hs
   obtain⟨k,hk,hw⟩:=qc hF
   exact⟨k,pg.toNat,F,hk,by omega,by omega,hw,hh.2,hF⟩
  ·cases h
 ·cases h
def lI(n:Nat)(W:Nat→Option Sp)(left:Nat)(r pg:Int)(e:fQ):Int:=
 if cK W r pg (tq n e)=0 then
  (match lH W r with
  |none=>0
  |some F=>if(F pg.toNat).1=true then 5 else if hasB F (pg.toNat/32)=false∧left=0 then 3 else 0)
 else cK W r pg (tq n e)
def vN(W:Nat→Option Sp)(r pg:Int)(e:fQ):Nat→Option Sp:=j6 W r.toNat ((lH W r).map fun F=>aI F pg.toNat e)
def needs(W:Nat→Option Sp)(r pg:Int):Nat:=match lH W r with
 |none=>0
 |some F=>if hasB F (pg.toNat/32)=true then 0 else 1
theorem Xb(p:Nat):((p:Int)/32)=((p/32:Nat):Int):=by omega
theorem Ck(p:Nat):((p:Int)%32)=((p%32:Nat):Int):=by omega
theorem tu(L:List Int)(f q:Nat)(e:fQ):nG L (f:Int) (q:Int) e=kK L f q e:=by simp[nG]
def jf(n:Nat)(W:Nat→Option Sp)(r pg:Int)(e:fQ):Int:=
 if cK W r pg (tq n e)=0 then
  (match lH W r with
  |none=>0
  |some F=>if(F pg.toNat).1=true then 0 else 4)
 else cK W r pg (tq n e)
end Go.Proofs.YtammlljefhakmaaGreatDoor
namespace Go.Proofs.YtammlljefhakmaaGreatDoor
open Go.RowKit
set_option maxRecDepth 100000
def eu(W:Nat→Option Sp)(r pg:Int):Int:=
 if cK W r pg true=0 then
  (match lH W r with
  |none=>0
  |some F=>if(F pg.toNat).1=true then 0 else 4)
 else cK W r pg true
def KS(W:Nat→Option Sp)(r pg:Int):fQ:=match lH W r with
 |none=>z0
 |some F=>F pg.toNat
def frees(W:Nat→Option Sp)(r pg:Int):Nat:=match lH W r with
 |none=>0
 |some F=>if hasB (aI F pg.toNat z0) (pg.toNat/32)=true then 0 else 1
theorem zN{W:Nat→Option Sp}{r pg:Int}(h:eu W r pg=0):∃(k p:Nat) (F:Sp),r=(k:Int)∧pg=(p:Int)∧p<1024∧W k=some F∧lH W r=some F∧(F p).1=true:=by
 unfold eu at h
 by_cases h0:cK W r pg true=0
 ·obtain⟨k,p,F,rfl,rfl,hp,hw,_,hF⟩:=oK h0
  rw[if_pos h0,hF]at h
  refine⟨k,p,F,rfl,rfl,hp,hw,hF,?_⟩
  by_cases hx:(F p).1=true
  ·exact hx
  ·simp[hx]at h
 ·rw[if_neg h0]at h;exact absurd h h0
def yA(F:Sp):Bool:=(List.range 32).all fun i=> !hasB F i
theorem Cm(F:Sp):yA F=true↔∀i,i<32→hasB F i=false:=by simp[yA]
def kM(W:Nat→Option Sp)(r:Int):Int:=match lH W r with
 |none=>4
 |some F=>if yA F=true then 0 else 9
def vO(F:Sp)(a:Nat):Nat→List sV
 |0=>[]
 |k+1=>vO F a k++(if(F (a+k)).1=true then[(((a+k:Nat):Int),F (a+k))]else[])
theorem KT(F:Sp)(a b:Nat):∀c,vO F a (b+c)=vO F a b++vO F (a+b) c
 |0=>by simp[vO]
 |c+1=>by
  rw[←Nat.add_assoc,vO,KT F a b c,vO,List.append_assoc,Nat.add_assoc]
theorem FV(F:Sp)(a:Nat):∀c,(∀j,j<c→(F (a+j)).1=false)→vO F a c=[]
 |0,_=>rfl
 |c+1,h=>by rw[vO,FV F a c (fun j hj=>h j (by omega)),h c (by omega)];rfl
def NZ(F:Sp):List sV:=vO F 0 1024
def vP(F:Sp):Nat:=1+((List.range 32).filter (hasB F)).length
def Kz(W:Nat→Option Sp)(r:Int):Nat:=match lH W r with
 |none=>0
 |some F=>vP F
def aak(W:Nat→Option Sp)(r:Int):List sV:=match lH W r with
 |none=>[]
 |some F=>NZ F
end Go.Proofs.YtammlljefhakmaaGreatDoor
namespace Go.Proofs.YtammlljefhakmaaGreatDoor
open Go.RowKit Go.Maps
set_option maxRecDepth 100000
section
variable {W0 w:World} {tb sb n m c:Nat} {X:bD} {W:Nat→Option Sp}
def adj(n c:Nat)(W:Nat→Option Sp)(r pg:Int)(e:fQ):Nat:=if lI n W c r pg e=0 then c-needs W r pg else c
def adk(n c:Nat)(W:Nat→Option Sp)(r pg:Int)(e:fQ):Nat→Option Sp:=if lI n W c r pg e=0 then vN W r pg e else W
def setW(n:Nat)(W:Nat→Option Sp)(r pg:Int)(e:fQ):Nat→Option Sp:=if jf n W r pg e=0 then vN W r pg e else W
def adl(c:Nat)(W:Nat→Option Sp)(r pg:Int):Nat:=if eu W r pg=0 then c+frees W r pg else c
def adn(W:Nat→Option Sp)(r pg:Int):Nat→Option Sp:=if eu W r pg=0 then vN W r pg z0 else W
def Cn(W:Nat→Option Sp)(r pg:Int):fQ:=if eu W r pg=0 then KS W r pg else z0
def ado(c:Nat)(W:Nat→Option Sp)(r:Int):Nat:=if kM W r=0 then c+1 else c
def adp(W:Nat→Option Sp)(r:Int):Nat→Option Sp:=if kM W r=0 then j6 W r.toNat none else W
end
end Go.Proofs.YtammlljefhakmaaGreatDoor
namespace Go.Proofs.YtammlljefhakmaaGreatDoor
open Go.RowKit Go.Maps
set_option maxRecDepth 100000
section
variable {n c:Nat} {W:Nat→Option Sp} {r:Int} {F:Sp} {p:Nat} {e:fQ}
end
end Go.Proofs.YtammlljefhakmaaGreatDoor
