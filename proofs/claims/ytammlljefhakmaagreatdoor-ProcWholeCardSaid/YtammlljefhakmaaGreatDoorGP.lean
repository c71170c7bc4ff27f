/- Helps of the proof. No condition. -/
import Derived.Test.YtammlljefhakmaaGreatDoorGN
import Derived.Test.YtammlljefhakmaaGreatDoorGNL
namespace Go.Proofs.YtammlljefhakmaaGreatDoor
open Go.RowKit
set_option maxRecDepth 100000
theorem D9{p x c:Bool}{g:Int}(h:nN p x c g=true):decode (fu p x c g)=some (p,x,c,g):=by
 obtain⟨h0,h1,_⟩:=Ac h
 have e1:fu p x c g%2=bit p:=by unfold fu;have:=jF p;have:=jG p;omega
 have e2:fu p x c g/2%2=bit x:=by unfold fu;have:=jF p;have:=jG p;have:=jF x;have:=jG x;omega
 have e3:fu p x c g/4%2=bit c:=by unfold fu;have:=jF p;have:=jG p;have:=jF x;have:=jG x;have:=jF c;have:=jG c;omega
 have e4:fu p x c g/256%1024=g:=by unfold fu;have:=jF p;have:=jG p;have:=jF x;have:=jG x;have:=jF c;have:=jG c;omega
 have b:∀b:Bool,decide (bit b=1)=b:=by intro b;cases b<;>rfl
 unfold decode
 simp only[e1,e2,e3,e4,b,h,true_and,if_true]
theorem jV{n:Nat}{L:List Int}{f q:Nat}(hf:f<n)(hq:q<32):dQ n L (f:Int) (q:Int)=(match decode (L.getD (f*32+q) 0)with|some e=>if e.2.2.2<(n:Int)then some e else none|none=>none):=by
 unfold dQ
 rw[if_pos ⟨by omega,by omega,by omega,by omega⟩]
 rfl
theorem iI(L:List Int)(f q:Nat)(e:fT):(kH L f q e).length=L.length:=by simp[kH]
theorem iJ{n:Nat}{L:List Int}{f q:Nat}{e:fT}(hl:L.length=n*32)(hf:f<n)(hq:q<32)(hok:nN e.1 e.2.1 e.2.2.1 e.2.2.2=true)(hg:e.2.2.2<n):dQ n (kH L f q e) (f:Int) (q:Int)=some e:=by
 rw[jV hf hq,kH,lG _ _ _ _ (by rw[hl];omega),if_pos rfl,D9 hok]
 simp only[hg,if_true]
theorem bQ{n:Nat}{L:List Int}{f q f' q':Nat}{e:fT}(hl:L.length=n*32)(hf:f<n)(hq:q<32)(hf':f'<n)(hq':q'<32)(hne:f'≠f∨q'≠q):dQ n (kH L f q e) (f':Int) (q':Int)=dQ n L (f':Int) (q':Int):=by
 rw[jV hf' hq',jV hf' hq',kH,lG _ _ _ _ (by rw[hl];omega),if_neg (by omega)]
theorem nV(L:List Int)(f i:Nat)(hf:f*32+32≤L.length):(putRow L f zeros).getD i 0=if f*32≤i∧i<f*32+32 then 0 else L.getD i 0:=by
 have hl:(L.take (f*32)).length=f*32:=by rw[List.length_take];omega
 simp only[putRow,zeros,List.getD_eq_getElem?_getD]
 by_cases h1:i<f*32
 ·rw[List.append_assoc,List.getElem?_append_left (by rw[hl];exact h1),List.getElem?_take,if_pos h1,if_neg (by omega)]
 ·by_cases h2:i<f*32+32
  ·rw[List.append_assoc,List.getElem?_append_right (by rw[hl];omega),hl,List.getElem?_append_left (by simp;omega),if_pos ⟨by omega,h2⟩,List.getElem?_replicate,if_pos (by omega)];rfl
  ·rw[List.append_assoc,List.getElem?_append_right (by rw[hl];omega),hl,List.getElem?_append_right (by simp;omega),if_neg (by omega),List.getElem?_drop,List.length_replicate,show f*32+32+(i-f*32-32)=i by omega]
theorem sV{n:Nat}{L:List Int}{f q:Nat}(hl:L.length=n*32)(hf:f<n)(hq:q<32):dQ n (putRow L f zeros) (f:Int) (q:Int)=some z0:=by
 rw[jV hf hq,nV _ _ _ (by rw[hl];omega),if_pos ⟨by omega,by omega⟩,zA]
 have:z0.2.2.2<(n:Int):=by simp[z0];omega
 simp only[this,if_true]
theorem jB{n:Nat}{L:List Int}{f f' q':Nat}(hl:L.length=n*32)(hf:f<n)(hf':f'<n)(hq':q'<32)(hne:f'≠f):dQ n (putRow L f zeros) (f':Int) (q':Int)=dQ n L (f':Int) (q':Int):=by
 rw[jV hf' hq',jV hf' hq',nV _ _ _ (by rw[hl];omega),if_neg (by omega)]
abbrev Sp:=Nat→fT
def mO(n:Nat)(e:fT):Prop:=e.1=true∧e.2.2.2<(n:Int)∧nN e.1 e.2.1 e.2.2.1 e.2.2.2=true
def hasB(F:Sp)(i:Nat):Bool:=(List.range 32).any fun j=>(F (32*i+j)).1
theorem jr(F:Sp)(i:Nat):hasB F i=true↔∃j,j<32∧(F (32*i+j)).1=true:=by simp[hasB]
def aH(F:Sp)(p:Nat)(e:fT):Sp:=fun q=>if q=p then e else F q
theorem aD(F:Sp)(p:Nat)(e:fT):aH F p e p=e:=by simp[aH]
theorem aA(F:Sp)(p:Nat)(e:fT)(q:Nat)(h:q≠p):aH F p e q=F q:=by simp[aH,h]
def j6{α:Type}(W:Nat→Option α)(r:Nat)(v:Option α):Nat→Option α:=fun x=>if x=r then v else W x
theorem aP{α:Type}(W:Nat→Option α)(r:Nat)(v:Option α):j6 W r v r=v:=by simp[j6]
theorem au{α:Type}(W:Nat→Option α)(r:Nat)(v:Option α)(x:Nat)(h:x≠r):j6 W r v x=W x:=by simp[j6,h]
theorem nW(F:Sp)(p:Nat)(e:fT)(i:Nat)(h:i≠p/32):hasB (aH F p e) i=hasB F i:=by
 have:∀j,j<32→aH F p e (32*i+j)=F (32*i+j):=fun j hj=>aA _ _ _ _ (by omega)
 rw[Bool.eq_iff_iff,jr,jr]
 exact⟨fun⟨j,h1,h2⟩=>⟨j,h1,by rw[←this j h1];exact h2⟩,fun⟨j,h1,h2⟩=>⟨j,h1,by rw[this j h1];exact h2⟩⟩
theorem wW(F:Sp)(p:Nat)(e:fT)(h:e.1=true):hasB (aH F p e) (p/32)=true:=
 (jr _ _).2 ⟨p%32,by omega,by rw[show 32*(p/32)+p%32=p by omega,aD];exact h⟩
theorem ZH{F:Sp}{p:Nat}(h:(F p).1=true):hasB F (p/32)=true:=
 (jr _ _).2 ⟨p%32,by omega,by rw[show 32*(p/32)+p%32=p by omega];exact h⟩
abbrev Own:=Nat→Option (Nat×Option Nat)
structure Inv(n m:Nat)(L:List Int)(R:Nat→Nat)(S:Nat→Bool)(W:Nat→Option Sp)(O:Own):Prop where
 len:L.length=n*32
 nm:n=m+2
 top:n≤1024
 sp:∀r:Nat,S r=(W r).isSome
 root:∀(r:Nat) (F:Sp),W r=some F→r<m∧O r=some (r,none)
 yes:∀(r:Nat) (F:Sp) (i:Nat),W r=some F→i<32→hasB F i=true→∃g:Nat,g<m∧O g=some (r,some i)∧dQ n L (r:Int) (i:Int)=some (true,false,false,(g:Int))∧∀j:Nat,j<32→dQ n L (g:Int) (j:Int)=some (F (32*i+j))
 no:∀(r:Nat) (F:Sp) (i:Nat),W r=some F→i<32→hasB F i=false→dQ n L (r:Int) (i:Int)=some z0
 fit:∀(r:Nat) (F:Sp) (p:Nat),W r=some F→F p=z0∨mO n (F p)
 held:∀f:Nat,R f=if(O f).isSome then 1 else 0
 low:∀f:Nat,(O f).isSome→f<m
end Go.Proofs.YtammlljefhakmaaGreatDoor
namespace Go.Proofs.YtammlljefhakmaaGreatDoor
open Go.RowKit
set_option maxRecDepth 100000
theorem Il{n:Nat}{e:fT}(hn:0<n)(h:e=z0∨mO n e):nN e.1 e.2.1 e.2.2.1 e.2.2.2=true∧e.2.2.2<n:=by
 rcases h with rfl|h
 ·exact⟨by decide,by simp[z0];omega⟩
 ·exact⟨h.2.2,h.2.1⟩
end Go.Proofs.YtammlljefhakmaaGreatDoor
namespace Go.Proofs.YtammlljefhakmaaGreatDoor
open Go.RowKit
set_option maxRecDepth 100000
theorem Nw{n:Nat}{L:List Int}{t:Int}{k j:Nat}(hj:j<k)(hp:(lF n L t (j:Int)).1=true):((j:Int),lF n L t (j:Int))∈cZ n L t k:=by
 induction k with
 |zero=>omega
 |succ k ih=>
  simp only[cZ,List.mem_append]
  by_cases e:j=k
  ·subst e;right;rw[if_pos hp];simp
  ·exact Or.inl (ih (by omega))
theorem Fh(n:Nat)(L:List Int)(t:Int):mM n L t=true↔∀j:Nat,j<32→(lF n L t (j:Int)).1=false:=by
 unfold mM gY
 rw[List.isEmpty_iff]
 constructor
 ·intro h j hj
  cases hp:(lF n L t (j:Int)).1 with
  |false=>rfl
  |true=>have:=Nw (k:=32) hj hp;rw[h]at this;simp at this
 ·intro h
  rw[List.eq_nil_iff_forall_not_mem]
  intro x hx
  obtain⟨j,hj,_,hp⟩:=qJ n L t 32 x hx
  rw[h j hj]at hp;cases hp
end Go.Proofs.YtammlljefhakmaaGreatDoor
namespace Go.Proofs.YtammlljefhakmaaGreatDoor
open Go.RowKit
set_option maxRecDepth 100000
def lI(W:Nat→Option Sp)(r:Int):Option Sp:=if 0≤r then W r.toNat else none
theorem gN(W:Nat→Option Sp)(r:Nat):lI W (r:Int)=W r:=by simp[lI]
theorem qh{W:Nat→Option Sp}{r:Int}{F:Sp}(h:lI W r=some F):∃k:Nat,r=(k:Int)∧W k=some F:=by
 unfold lI at h
 split at h
 ·exact⟨r.toNat,by omega,h⟩
 ·cases h
def dh(W:Nat→Option Sp)(r pg:Int)(fine:Bool):Int:=if(0≤pg∧pg<1024)∧fine=true then(if(lI W r).isSome then 0 else 4)else 2
def sW(n:Nat)(e:fT):Bool:=Kn n e.1 e.2.1 e.2.2.1 e.2.2.2
theorem wX(n:Nat)(e:fT):sW n e=true↔mO n e:=by
 unfold sW Kn mO
 simp only[Bool.and_eq_true,decide_eq_true_eq]
theorem wY{pg:Int}(h:0≤pg∧pg<1024):kI pg=0:=by unfold kI;rw[if_pos h]
theorem KA{pg:Int}(h:¬(0≤pg∧pg<1024)):kI pg=2:=by unfold kI;rw[if_neg h]
theorem Ph{n:Nat}{e:fT}(h:sW n e=true):o9 n e.1 e.2.1 e.2.2.1 e.2.2.2=0:=by unfold o9;rw[show Kn n e.1 e.2.1 e.2.2.1 e.2.2.2=true from h];rfl
theorem VX{n:Nat}{e:fT}(h:sW n e=false):o9 n e.1 e.2.1 e.2.2.1 e.2.2.2=2:=by unfold o9;rw[show Kn n e.1 e.2.1 e.2.2.1 e.2.2.2=false from h];rfl
theorem qN{W:Nat→Option Sp}{r pg:Int}{b:Bool}(h:¬((0≤pg∧pg<1024)∧b=true)):dh W r pg b=2:=by unfold dh;rw[if_neg h]
theorem Fj{W:Nat→Option Sp}{r pg:Int}{b:Bool}(h:(0≤pg∧pg<1024)∧b=true)(hs:(lI W r).isSome=false):dh W r pg b=4:=by unfold dh;rw[if_pos h,hs];rfl
theorem Ca{W:Nat→Option Sp}{r pg:Int}{b:Bool}(h:(0≤pg∧pg<1024)∧b=true)(hs:(lI W r).isSome=true):dh W r pg b=0:=by unfold dh;rw[if_pos h,hs];rfl
theorem VY(k:Int):aN [k]=k:=by by_cases hk:k=0<;>simp[aN,hk]
theorem oM{W:Nat→Option Sp}{r pg:Int}{b:Bool}(h:dh W r pg b=0):∃(k p:Nat) (F:Sp),r=(k:Int)∧pg=(p:Int)∧p<1024∧W k=some F∧b=true∧lI W r=some F:=by
 unfold dh at h
 split at h
 ·rename_i hh
  split at h
  ·rename_i hs
   obtain⟨F,hF⟩:=Option.isSome_iff_exists.1 hs
   obtain⟨k,hk,hw⟩:=qh hF
   exact⟨k,pg.toNat,F,hk,by omega,by omega,hw,hh.2,hF⟩
  ·cases h
 ·cases h
def lJ(n:Nat)(W:Nat→Option Sp)(left:Nat)(r pg:Int)(e:fT):Int:=
 if dh W r pg (sW n e)=0 then
  (match lI W r with
  |none=>0
  |some F=>if(F pg.toNat).1=true then 5 else if hasB F (pg.toNat/32)=false∧left=0 then 3 else 0)
 else dh W r pg (sW n e)
def vK(W:Nat→Option Sp)(r pg:Int)(e:fT):Nat→Option Sp:=j6 W r.toNat ((lI W r).map fun F=>aH F pg.toNat e)
def needs(W:Nat→Option Sp)(r pg:Int):Nat:=match lI W r with
 |none=>0
 |some F=>if hasB F (pg.toNat/32)=true then 0 else 1
theorem VZ(p:Nat):((p:Int)/32)=((p/32:Nat):Int):=by omega
theorem Cb(p:Nat):((p:Int)%32)=((p%32:Nat):Int):=by omega
theorem sZ(L:List Int)(f q:Nat)(e:fT):nE L (f:Int) (q:Int) e=kH L f q e:=by simp[nE]
def jc(n:Nat)(W:Nat→Option Sp)(r pg:Int)(e:fT):Int:=
 if dh W r pg (sW n e)=0 then
  (match lI W r with
  |none=>0
  |some F=>if(F pg.toNat).1=true then 0 else 4)
 else dh W r pg (sW n e)
end Go.Proofs.YtammlljefhakmaaGreatDoor
namespace Go.Proofs.YtammlljefhakmaaGreatDoor
open Go.RowKit
set_option maxRecDepth 100000
def eu(W:Nat→Option Sp)(r pg:Int):Int:=
 if dh W r pg true=0 then
  (match lI W r with
  |none=>0
  |some F=>if(F pg.toNat).1=true then 0 else 4)
 else dh W r pg true
def KC(W:Nat→Option Sp)(r pg:Int):fT:=match lI W r with
 |none=>z0
 |some F=>F pg.toNat
def frees(W:Nat→Option Sp)(r pg:Int):Nat:=match lI W r with
 |none=>0
 |some F=>if hasB (aH F pg.toNat z0) (pg.toNat/32)=true then 0 else 1
theorem zF{W:Nat→Option Sp}{r pg:Int}(h:eu W r pg=0):∃(k p:Nat) (F:Sp),r=(k:Int)∧pg=(p:Int)∧p<1024∧W k=some F∧lI W r=some F∧(F p).1=true:=by
 unfold eu at h
 by_cases h0:dh W r pg true=0
 ·obtain⟨k,p,F,rfl,rfl,hp,hw,_,hF⟩:=oM h0
  rw[if_pos h0,hF]at h
  refine⟨k,p,F,rfl,rfl,hp,hw,hF,?_⟩
  by_cases hx:(F p).1=true
  ·exact hx
  ·simp[hx]at h
 ·rw[if_neg h0]at h;exact absurd h h0
def yF(F:Sp):Bool:=(List.range 32).all fun i=> !hasB F i
theorem Cc(F:Sp):yF F=true↔∀i,i<32→hasB F i=false:=by simp[yF]
def kK(W:Nat→Option Sp)(r:Int):Int:=match lI W r with
 |none=>4
 |some F=>if yF F=true then 0 else 9
def vL(F:Sp)(a:Nat):Nat→List sS
 |0=>[]
 |k+1=>vL F a k++(if(F (a+k)).1=true then[(((a+k:Nat):Int),F (a+k))]else[])
theorem KF(F:Sp)(a b:Nat):∀c,vL F a (b+c)=vL F a b++vL F (a+b) c
 |0=>by simp[vL]
 |c+1=>by
  rw[←Nat.add_assoc,vL,KF F a b c,vL,List.append_assoc,Nat.add_assoc]
theorem Fp(F:Sp)(a:Nat):∀c,(∀j,j<c→(F (a+j)).1=false)→vL F a c=[]
 |0,_=>rfl
 |c+1,h=>by rw[vL,Fp F a c (fun j hj=>h j (by omega)),h c (by omega)];rfl
def Ny(F:Sp):List sS:=vL F 0 1024
def vM(F:Sp):Nat:=1+((List.range 32).filter (hasB F)).length
def Km(W:Nat→Option Sp)(r:Int):Nat:=match lI W r with
 |none=>0
 |some F=>vM F
def ZI(W:Nat→Option Sp)(r:Int):List sS:=match lI W r with
 |none=>[]
 |some F=>Ny F
end Go.Proofs.YtammlljefhakmaaGreatDoor
namespace Go.Proofs.YtammlljefhakmaaGreatDoor
open Go.RowKit Go.Maps
set_option maxRecDepth 100000
section
variable {W0 w:World} {tb sb n m c:Nat} {X:bC} {W:Nat→Option Sp}
def acK(n c:Nat)(W:Nat→Option Sp)(r pg:Int)(e:fT):Nat:=if lJ n W c r pg e=0 then c-needs W r pg else c
def acL(n c:Nat)(W:Nat→Option Sp)(r pg:Int)(e:fT):Nat→Option Sp:=if lJ n W c r pg e=0 then vK W r pg e else W
def setW(n:Nat)(W:Nat→Option Sp)(r pg:Int)(e:fT):Nat→Option Sp:=if jc n W r pg e=0 then vK W r pg e else W
def acM(c:Nat)(W:Nat→Option Sp)(r pg:Int):Nat:=if eu W r pg=0 then c+frees W r pg else c
def acN(W:Nat→Option Sp)(r pg:Int):Nat→Option Sp:=if eu W r pg=0 then vK W r pg z0 else W
def Ce(W:Nat→Option Sp)(r pg:Int):fT:=if eu W r pg=0 then KC W r pg else z0
def acO(c:Nat)(W:Nat→Option Sp)(r:Int):Nat:=if kK W r=0 then c+1 else c
def acP(W:Nat→Option Sp)(r:Int):Nat→Option Sp:=if kK W r=0 then j6 W r.toNat none else W
end
end Go.Proofs.YtammlljefhakmaaGreatDoor
namespace Go.Proofs.YtammlljefhakmaaGreatDoor
open Go.RowKit Go.Maps
set_option maxRecDepth 100000
section
variable {n c:Nat} {W:Nat→Option Sp} {r:Int} {F:Sp} {p:Nat} {e:fT}
end
end Go.Proofs.YtammlljefhakmaaGreatDoor
