/- Helps of the proof. No condition. -/
import Derived.Test.YtammlljefhakmaaGreatDoorGA0
import Derived.BigQuiet
import Derived.Deep.RegionHeld3
namespace Go.Proofs.YtammlljefhakmaaGreatDoor
set_option maxRecDepth 100000
abbrev Ar:=Int×Int×Bool
def FitD(f m:Int):Prop:=0≤f∧1≤m∧m≤1024-f
instance(f m:Int):Decidable (FitD f m):=by unfold FitD;infer_instance
def kP(x y:Ar):Prop:=x.1+x.2.1<y.1∨x.1+x.2.1=y.1∧y.2.2≠x.2.2
instance(x y:Ar):Decidable (kP x y):=by unfold kP;infer_instance
def dS(x:Ar)(p:Int):Prop:=x.1≤p∧p<x.1+x.2.1
instance(x:Ar)(p:Int):Decidable (dS x p):=by unfold dS;infer_instance
structure mF(L:List Ar):Prop where
 fit:∀x∈L,FitD x.1 x.2.1
 ord:L.Pairwise kP
structure qQ(L:List Ar):Prop where
 few:L.length≤8
 up:mF L
def fF:List Ar→Int→Option Bool
 |[],_=>none
 |x::r,p=>if dS x p then some x.2.2 else fF r p
theorem mF.nil:mF []:=⟨by simp,List.Pairwise.nil⟩
theorem qQ.nil:qQ []:=⟨by simp,mF.nil⟩
theorem Cy{x y:Ar}(h:kP x y):x.1+x.2.1≤y.1:=by unfold kP at h;omega
theorem Te{x y z:Ar}(h:kP x y)(hy:FitD y.1 y.2.1)(k:kP y z):kP x z:=by
 have:=Cy h
 have:=Cy k
 unfold FitD at hy
 left
 omega
theorem IL{x y:Ar}{p:Int}(h:kP x y)(hx:dS x p):¬dS y p:=by
 have:=Cy h
 unfold dS at hx ⊢
 omega
theorem mF.tail{x:Ar}{r:List Ar}(h:mF (x::r)):mF r:=⟨fun y hy=>h.fit y (List.mem_cons_of_mem _ hy),(List.pairwise_cons.1 h.ord).2⟩
theorem mF.head{x:Ar}{r:List Ar}(h:mF (x::r)):FitD x.1 x.2.1∧∀y∈r,kP x y:=⟨h.fit x (by simp),(List.pairwise_cons.1 h.ord).1⟩
theorem mF.afk{x:Ar}(h:FitD x.1 x.2.1):mF [x]:=⟨fun y hy=>by rw[List.mem_singleton.1 hy];exact h,List.pairwise_singleton _ _⟩
theorem Az{L M:List Ar}:mF (L++M)↔mF L∧mF M∧∀x∈L,∀y∈M,kP x y:=by
 constructor
 ·intro h
  obtain⟨h1,h2,h3⟩:=List.pairwise_append.1 h.ord
  exact⟨⟨fun x hx=>h.fit x (List.mem_append_left _ hx),h1⟩,⟨fun x hx=>h.fit x (List.mem_append_right _ hx),h2⟩,h3⟩
 ·rintro⟨h1,h2,h3⟩
  exact⟨fun x hx=>(List.mem_append.1 hx).elim (h1.fit x) (h2.fit x),List.pairwise_append.2 ⟨h1.ord,h2.ord,h3⟩⟩
theorem nY{p:Int}:∀{L:List Ar},(∀x∈L,¬dS x p)→fF L p=none
 |[],_=>rfl
 |x::r,h=>by
  rw[fF,if_neg (h x (by simp))]
  exact nY fun y hy=>h y (List.mem_cons_of_mem _ hy)
theorem iP{p:Int}:∀{L:List Ar},mF L→∀{x:Ar},x∈L→dS x p→fF L p=some x.2.2
 | y::r,h,x,hx,hp=>by
  rw[fF]
  split
  ·rename_i hy
   rcases List.mem_cons.1 hx with rfl|hx
   ·rfl
   ·exact absurd hp (IL (h.head.2 x hx) hy)
  ·rename_i hy
   rcases List.mem_cons.1 hx with rfl|hx
   ·exact absurd hp hy
   ·exact iP h.tail hx hp
theorem Gi(L:List Ar)(p:Int):(fF L p=none∧∀x∈L,¬dS x p)∨∃x∈L,dS x p∧fF L p=some x.2.2:=by
 induction L with
 |nil=>exact Or.inl ⟨rfl,by simp⟩
 | cons x r ih=>
  by_cases hx:dS x p
  ·exact Or.inr ⟨x,by simp,hx,by rw[fF,if_pos hx]⟩
  ·rw[fF,if_neg hx]
   rcases ih with⟨h1,h2⟩|⟨y,h1,h2,h3⟩
   ·exact Or.inl ⟨h1,fun y hy=>(List.mem_cons.1 hy).elim (fun e=>e▸hx) (h2 y)⟩
   ·exact Or.inr ⟨y,List.mem_cons_of_mem _ h1,h2,h3⟩
theorem AB(L M:List Ar)(p:Int):fF (L++M) p=if fF L p=none then fF M p else fF L p:=by
 induction L with
 |nil=>simp[fF]
 |cons x r ih=>
  rw[List.cons_append,fF,fF]
  split
  ·simp
  ·exact ih
theorem yH{L:List Ar}(h:mF L){p:Int}(hp:p<0∨1024≤p):fF L p=none:=nY fun x hx hh=>by
 have:=h.fit x hx
 unfold FitD at this
 unfold dS at hh
 omega
theorem Lf:∀{L M:List Ar},mF L→mF M→(∀p,fF L p=fF M p)→L=M
 |[],[],_,_,_=>rfl
 |x::r,[],h,_,he=>by
  have:=he x.1
  rw[iP h (List.mem_cons_self) ⟨by omega,by have:=h.head.1;unfold FitD at this;omega⟩]at this
  cases this
 |[],y::s,_,h,he=>by
  have:=he y.1
  rw[iP h (List.mem_cons_self) ⟨by omega,by have:=h.head.1;unfold FitD at this;omega⟩]at this
  cases this
 | x ::r,y::s,hx,hy,he=>by
  have fx:=hx.head.1
  have fy:=hy.head.1
  have low:∀{x:Ar} {r:List Ar},mF (x::r)→∀p w,fF (x::r) p=some w→x.1≤p:=by
   intro x r h p w hw
   rcases Gi (x::r) p with⟨h1,_⟩|⟨z,hz,hp,_⟩
   ·rw[h1]at hw;cases hw
   ·rcases List.mem_cons.1 hz with rfl|hz
    ·exact hp.1
    ·have:=Cy (h.head.2 z hz)
     have:=h.head.1
     unfold FitD at this
     unfold dS at hp
     omega
  have a1:dS x x.1:=⟨by omega,by unfold FitD at fx;omega⟩
  have a2:dS y y.1:=⟨by omega,by unfold FitD at fy;omega⟩
  have b1:=iP hx List.mem_cons_self a1
  have b2:=iP hy List.mem_cons_self a2
  have c1:=low hy x.1 _ ((he x.1).symm.trans b1)
  have c2:=low hx y.1 _ ((he y.1).trans b2)
  have e1:x.1=y.1:=by omega
  have e3:x.2.2=y.2.2:=by
   have:=he x.1
   rw[b1,e1,b2]at this
   exact Option.some.inj this
  have afl:∀{x y:Ar} {r s:List Ar},mF (x::r)→mF (y::s)→(∀p,fF (x::r) p=fF (y::s) p)→x.1=y.1→x.2.2=y.2.2→¬x.2.1<y.2.1:=by
   intro x y r s hx hy he e1 e3 hlt
   have fx:=hx.head.1
   have:=he (x.1+x.2.1)
   rw[iP hy List.mem_cons_self ⟨by unfold FitD at fx;omega,by omega⟩]at this
   rcases Gi (x::r) (x.1+x.2.1)with⟨h1,_⟩|⟨z,hz,hp,hw⟩
   ·rw[h1]at this;cases this
   ·rcases List.mem_cons.1 hz with rfl|hz
    ·unfold dS at hp;omega
    ·have hf:=hx.head.2 z hz
     rw[hw]at this
     have ew:=Option.some.inj this
     rcases hf with hf|⟨hf,hn⟩
     ·unfold dS at hp;omega
     ·exact hn (ew.trans e3.symm)
  have n1:=afl hx hy he e1 e3
  have n2:=afl hy hx (fun p=>(he p).symm) e1.symm e3.symm
  have exy:x=y:=Prod.ext e1 (Prod.ext (by omega) e3)
  subst exy
  rw[Lf hx.tail hy.tail fun p=>?_]
  by_cases hp:dS x p
  ·rw[nY fun z hz=>IL (hx.head.2 z hz) hp,nY fun z hz=>IL (hy.head.2 z hz) hp]
  ·have:=he p
   rwa [fF,fF,if_neg hp,if_neg hp]at this
theorem mF.len{L:List Ar}(h:mF L):L.length≤1024:=by
 have key:∀{L:List Ar},mF L→∀e:Int,0≤e→(∀x∈L,e≤x.1)→(L≠[]→(L.length:Int)≤1024-e):=by
  intro L
  induction L with
  |nil=>intro _ _ _ _ hn;exact absurd rfl hn
  | cons x r ih=>
   intro h e he hl _
   have hx:=h.head.1
   have:=hl x List.mem_cons_self
   unfold FitD at hx
   by_cases hr:r=[]
   ·subst hr;simp;omega
   ·have:=ih h.tail (x.1+x.2.1) (by omega) (fun y hy=>Cy (h.head.2 y hy)) hr
    rw[List.length_cons]
    omega
 by_cases hL:L=[]
 ·subst hL;simp
 ·have:=key h 0 (by omega) (fun x hx=>by have:=h.fit x hx;unfold FitD at this;omega) hL
  omega
theorem Lg{L:List Ar}{x:Ar}(h:mF L)(hx:FitD x.1 x.2.1)(hl:∀y,L.getLast?=some y→kP y x):mF (L++[x]):=by
 refine Az.2 ⟨h,mF.afk hx,fun y hy z hz=>?_⟩
 obtain rfl:=List.mem_singleton.1 hz
 by_cases hn:L=[]
 ·subst hn;simp at hy
 ·have e:=List.dropLast_concat_getLast hn
  have hlast:=hl _ (List.getLast?_eq_some_getLast hn)
  rw[←e]at h hy
  rcases List.mem_append.1 hy with hy|hy
  ·obtain⟨_,h2,h3⟩:=Az.1 h
   exact Te (h3 y hy _ (by simp)) (h2.fit _ (by simp)) hlast
  ·rw[List.mem_singleton.1 hy];exact hlast
def qj(P:Int→Bool)(f:Int):Nat→Int
 |0=>0
 |n+1=>qj P f n+if P (f+n)then 1 else 0
theorem AJ(P:Int→Bool)(f:Int)(n:Nat):0≤qj P f n∧qj P f n≤n:=by
 induction n with
 |zero=>simp[qj]
 |succ n ih=>rw[qj];split<;>omega
theorem Xl{P:Int→Bool}{f:Int}{n:Nat}:qj P f n=n↔∀p,f≤p→p<f+n→P p=true:=by
 induction n with
 |zero=>simp only[qj,Int.natCast_zero];exact⟨fun _ p h1 h2=>by omega,fun _=>trivial⟩
 | succ n ih=>
  have hl:=AJ P f n
  rw[qj]
  constructor
  ·intro h p h1 h2
   split at h
   ·rename_i hp
    by_cases e:p=f+n
    ·rw[e];exact hp
    ·exact ih.1 (by omega) p h1 (by omega)
   ·omega
  ·intro h
   rw[if_pos (h _ (by omega) (by omega)),ih.2 fun p h1 h2=>h p h1 (by omega)]
   omega
theorem Tf{P:Int→Bool}{f:Int}{n:Nat}:qj P f n=0↔∀p,f≤p→p<f+n→P p=false:=by
 induction n with
 |zero=>simp only[qj,Int.natCast_zero];exact⟨fun _ p h1 h2=>by omega,fun _=>trivial⟩
 | succ n ih=>
  have hl:=AJ P f n
  rw[qj]
  constructor
  ·intro h p h1 h2
   split at h
   ·omega
   ·rename_i hp
    by_cases e:p=f+n
    ·rw[e];simpa using hp
    ·exact ih.1 (by omega) p h1 (by omega)
  ·intro h
   rw[ih.2 fun p h1 h2=>h p h1 (by omega),if_neg (by rw[h _ (by omega) (by omega)];simp)]
   omega
end Go.Proofs.YtammlljefhakmaaGreatDoor
namespace Go.Proofs.YtammlljefhakmaaGreatDoor
set_option maxRecDepth 100000
def pz(f:Int→Option Bool)(er:Int)(M:List Ar):Prop:=∃F,mF F∧(∀p,fF F p=f p)∧(F.length≤8∧er=0∧M=F∨8<F.length∧er=3∧M=[])
theorem pz.uniq{f g:Int→Option Bool}{er YR:Int}{M M':List Ar}(h:pz f er M)(k:pz g YR M')(he:∀p,f p=g p):er=YR∧M=M':=by
 obtain⟨F,hF,hf,h⟩:=h
 obtain⟨G,hG,hg,k⟩:=k
 obtain rfl:=Lf hF hG fun p=>by rw[hf,he,hg]
 rcases h with⟨h1,rfl,rfl⟩|⟨h1,rfl,rfl⟩<;>rcases k with⟨k1,rfl,rfl⟩|⟨k1,rfl,rfl⟩<;>first|exact⟨rfl,rfl⟩|(exfalso;omega)
theorem pz.ok{f:Int→Option Bool}{M:List Ar}(h:pz f 0 M):qQ M∧∀p,fF M p=f p:=by
 obtain⟨F,hF,hf,⟨h1,_,rfl⟩|⟨_,h2,_⟩⟩:=h
 ·exact⟨⟨h1,hF⟩,hf⟩
 ·cases h2
theorem pz.few{f:Int→Option Bool}{R:List Ar}(h:mF R)(hf:∀p,fF R p=f p)(hl:R.length≤8):pz f 0 R:=⟨R,h,hf,Or.inl ⟨hl,rfl,rfl⟩⟩
theorem pz.many{f:Int→Option Bool}{R:List Ar}(h:mF R)(hf:∀p,fF R p=f p)(hl:8<R.length):pz f 3 []:=⟨R,h,hf,Or.inr ⟨hl,rfl,rfl⟩⟩
def Xm(a:Ar)(f:Int→Option Bool)(p:Int):Option Bool:=if dS a p then some a.2.2 else f p
def Qj(f m:Int)(g:Int→Option Bool)(p:Int):Option Bool:=if f≤p∧p<f+m then none else g p
def Tg(L:List Ar)(a:Ar)(er:Int)(M:List Ar):Prop:=¬(qQ L∧FitD a.1 a.2.1)∧er=2∧M=[]∨(qQ L∧FitD a.1 a.2.1)∧((¬∀p,dS a p→fF L p=none)∧er=5∧M=[]∨(∀p,dS a p→fF L p=none)∧pz (Xm a (fF L)) er M)
def Ep(L:List Ar)(f m:Int):Prop:=∀p,f≤p→p<f+m→fF L p≠none
def Cz(L:List Ar)(f m:Int)(er:Int)(M:List Ar):Prop:=¬(qQ L∧FitD f m)∧er=2∧M=[]∨(qQ L∧FitD f m)∧(¬Ep L f m∧er=4∧M=[]∨Ep L f m∧pz (Qj f m (fF L)) er M)
theorem Xn{A B:Prop}{f:Int→Option Bool}{e1 e2 er YR:Int}{M M':List Ar}(h:¬A∧er=e1∧M=[]∨A∧(¬B∧er=e2∧M=[]∨B∧pz f er M))(k:¬A∧YR=e1∧M'=[]∨A∧(¬B∧YR=e2∧M'=[]∨B∧pz f YR M')):er=YR∧M=M':=by
 rcases h with⟨h1,rfl,rfl⟩|⟨h1,⟨h2,rfl,rfl⟩|⟨h2,h3⟩⟩<;>rcases k with⟨k1,rfl,rfl⟩|⟨k1,⟨k2,rfl,rfl⟩|⟨k2,k3⟩⟩<;>first|exact⟨rfl,rfl⟩|exact absurd h1 k1|exact absurd k1 h1|exact absurd h2 k2|exact absurd k2 h2|exact h3.uniq k3 fun _=>rfl
theorem Cz.uniq{L:List Ar}{f m er YR:Int}{M M':List Ar}(h:Cz L f m er M)(k:Cz L f m YR M'):er=YR∧M=M':=Xn h k
theorem Qk{A B:Prop}{f:Int→Option Bool}{e1 e2:Int}{M:List Ar}(n1:e1≠0)(n2:e2≠0)(h:¬A∧0=e1∧M=[]∨A∧(¬B∧0=e2∧M=[]∨B∧pz f 0 M)):A∧B∧pz f 0 M:=by
 rcases h with⟨_,h,_⟩|⟨h1,⟨_,h,_⟩|⟨h2,h3⟩⟩
 ·exact absurd h.symm n1
 ·exact absurd h.symm n2
 ·exact⟨h1,h2,h3⟩
theorem AO{L:List Ar}{x:Ar}{p:Int}(h:¬dS x p):fF (L++[x]) p=fF L p:=by
 rw[AB]
 split
 ·rename_i e;rw[e,fF,if_neg h];rfl
 ·rfl
structure iQ(f:Int→Option Bool)(k:Int)(l:List Ar):Prop where
 up:mF l
 lo:∀p,p<k→fF l p=f p
 hi:∀p,k≤p→fF l p=none
theorem iQ.zero{f:Int→Option Bool}(hf:∀p,p<0→f p=none):iQ f 0 []:=⟨mF.nil,fun p hp=>by rw[hf p hp];rfl,fun _ _=>rfl⟩
theorem iQ.skip{f:Int→Option Bool}{k:Int}{l:List Ar}(h:iQ f k l)(hk:f k=none):iQ f (k+1) l:=⟨h.up,fun p hp=>by
  by_cases e:p=k
  ·rw[e,hk];exact h.hi k (by omega)
  ·exact h.lo p (by omega),fun p hp=>h.hi p (by omega)⟩
theorem iQ.adt{f:Int→Option Bool}{k:Int}{l:List Ar}(h:iQ f k l){y:Ar}(hy:y∈l):y.1+y.2.1≤k:=by
 have hf:=h.up.fit y hy
 unfold FitD at hf
 apply Int.not_lt.1
 intro hlt
 have:=iP h.up hy (p:=y.1+y.2.1-1) ⟨by omega,by omega⟩
 rw[h.hi _ (by omega)]at this
 cases this
theorem iQ.new{f:Int→Option Bool}{k:Int}{l:List Ar}{w:Bool}(h:iQ f k l)(h0:0≤k∧k<1024)(hk:f k=some w)(hl:∀y,l.getLast?=some y→kP y (k,1,w)):iQ f (k+1) (l++[(k,1,w)]):=by
 have up:mF (l++[(k,1,w)]):=Lg h.up ⟨h0.1,Int.le_refl _,by show(1:Int)≤1024-k;omega⟩ hl
 refine⟨up,fun p hp=>?_,fun p hp=>?_⟩
 ·by_cases e:p=k
  ·rw[e,hk];exact iP up (x:=(k,1,w)) (by simp) ⟨Int.le_refl _,by show k<k+1;omega⟩
  ·rw[AO (by unfold dS;show ¬(k≤p∧p<k+1);omega)]
   exact h.lo p (by omega)
 ·rw[AO (by unfold dS;show ¬(k≤p∧p<k+1);omega)]
  exact h.hi p (by omega)
theorem iQ.more{f:Int→Option Bool}{k:Int}{l:List Ar}{y:Ar}{w:Bool}(h:iQ f k (l++[y]))(h0:0≤k∧k<1024)(hk:f k=some w)(hl:¬kP y (k,1,w)):iQ f (k+1) (l++[(y.1,y.2.1+1,y.2.2)]):=by
 have he:=h.adt (y:=y) (by simp)
 have hf:=h.up.fit y (by simp)
 have hek:y.1+y.2.1=k∧w=y.2.2:=by
  unfold kP at hl
  refine⟨?_,?_⟩
  ·apply Int.le_antisymm he
   apply Int.not_lt.1
   intro hlt
   exact hl (Or.inl hlt)
  ·by_cases e:w=y.2.2
   ·exact e
   ·exfalso
    apply hl
    by_cases hlt:y.1+y.2.1<k
    ·exact Or.inl hlt
    ·exact Or.inr ⟨by show y.1+y.2.1=k;omega,e⟩
 obtain⟨ek,rfl⟩:=hek
 unfold FitD at hf
 obtain⟨u1, -,u3⟩:=Az.1 h.up
 have up:mF (l++[(y.1,y.2.1+1,y.2.2)]):=Az.2 ⟨u1,mF.afk ⟨hf.1,by show(1:Int)≤y.2.1+1;omega,by show y.2.1+1≤1024-y.1;omega⟩,fun x hx z hz=>by
  rw[List.mem_singleton.1 hz]
  exact u3 x hx y (by simp)⟩
 refine⟨up,fun p hp=>?_,fun p hp=>?_⟩
 ·by_cases e:p=k
  ·rw[e,hk];exact iP up (x:=(y.1,y.2.1+1,y.2.2)) (by simp) ⟨by show y.1≤k;omega,by show k<y.1+(y.2.1+1);omega⟩
  ·rw[←h.lo p (by omega),AB,AB,fF,fF]
   have:dS (y.1,y.2.1+1,y.2.2) p↔dS y p:=by unfold dS;show(y.1≤p∧p<y.1+(y.2.1+1))↔(y.1≤p∧p<y.1+y.2.1);omega
   simp only[this,fF]
 ·have:=h.hi p (by omega)
  rw[AO (by unfold dS;show ¬(y.1≤p∧p<y.1+(y.2.1+1));omega)]
  rwa [AO (by unfold dS;omega)]at this
theorem iQ.ends{f:Int→Option Bool}{l:List Ar}(h:iQ f 1024 l)(hf:∀p,1024≤p→f p=none):mF l∧∀p,fF l p=f p:=⟨h.up,fun p=>by
  by_cases e:p<1024
  ·exact h.lo p e
  ·rw[h.hi p (by omega),hf p (by omega)]⟩
def abD(x a:Ar):Prop:=x.1<a.1+a.2.1∧a.1<x.1+x.2.1
instance(x a:Ar):Decidable (abD x a):=by unfold abD;infer_instance
end Go.Proofs.YtammlljefhakmaaGreatDoor
namespace Go.Proofs.YtammlljefhakmaaGreatDoor
open Go.RowKit Go.Maps
set_option maxRecDepth 100000
def Xo(w:World)(b o:Nat)(x:Ar):Prop:=w.cell? ⟨b,o,none⟩=some (.int .i64 x.1)∧w.cell? ⟨b,o+1,none⟩=some (.int .i64 x.2.1)∧w.cell? ⟨b,o+2,none⟩=some (.bool x.2.2)
abbrev arsV(L:List Ar):List Value:=L.flatMap fun x=>[.int .i64 x.1, .int .i64 x.2.1, .bool x.2.2]
def CJ(x:Ar):Prop:=I64 x.1∧I64 x.2.1
theorem FitD.wide{x:Ar}(h:FitD x.1 x.2.1):CJ x:=by unfold FitD at h;unfold CJ I64;omega
def iC(w:World)(v:Value)(L:List Ar):Prop:=∃a c,v= .slice a L.length c∧L.length≤2000∧(∀x∈L,CJ x)∧(L=[]∨∃b o,a=some ⟨b,o,none⟩∧b<w.heap.size∧∀i,i<L.length→Xo w b (o+i*3) (L.getD i default))
theorem iC.below{w w':World}{v:Value}{L:List Ar}(h:iC w v L)(hb:Below w.heap.size w w'):iC w' v L:=by
 obtain⟨a,c,rfl,hl,hw,h⟩:=h
 refine⟨a,c,rfl,hl,hw,h.imp id fun⟨b,o,e,hlt,hc⟩=>⟨b,o,e,Nat.lt_of_lt_of_le hlt hb.size,fun i hi=>?_⟩⟩
 obtain⟨c0,c1,c2⟩:=hc i hi
 have k:∀q,w'.cell? ⟨b,q,none⟩=w.cell? ⟨b,q,none⟩:=fun q=>hb.cell (p:=⟨b,q,none⟩) hlt
 exact⟨(k _).trans c0,(k _).trans c1,(k _).trans c2⟩
theorem iC.nil(w:World):iC w (.slice none 0 0) []:=⟨none,0,rfl,by simp,by simp,Or.inl rfl⟩
theorem iC.form{w:World}{v:Value}{L:List Ar}(h:iC w v L):∃a c,v= .slice a L.length c:=by
 obtain⟨a,c,e,_⟩:=h
 exact⟨a,c,e⟩
theorem iC.len{w:World}{v:Value}{L:List Ar}(h:iC w v L):L.length≤2000:=by
 obtain⟨a,c,e,h,_⟩:=h
 exact h
theorem CP{L:List Ar}{i:Nat}(h:i<L.length):L.getD i default∈L:=by
 rw[List.getD_eq_getElem?_getD,List.getElem?_eq_getElem h];exact List.getElem_mem _
theorem iC.at_{w:World}{a:Option Addr}{n c:Nat}{L:List Ar}(h:iC w (.slice a n c) L){i:Nat}(hi:i<L.length){x:Ar}(hx:L.getD i default=x):
  ∃b o,a=some ⟨b,o,none⟩∧b<w.heap.size∧CJ x∧w.cell? ⟨b,o+i*3,none⟩=some (.int .i64 x.1)∧w.cell? ⟨b,o+i*3+1,none⟩=some (.int .i64 x.2.1)∧w.cell? ⟨b,o+i*3+2,none⟩=some (.bool x.2.2):=by
 obtain⟨a',c',he,_,hw,h⟩:=h
 injection he with e1
 subst e1 hx
 rcases h with rfl|⟨b,o,rfl,hb,hc⟩
 ·simp at hi
 ·exact⟨b,o,rfl,hb,hw _ (CP hi),hc i hi⟩
theorem CU:∀(L:List Ar) (i:Nat),i<L.length→(arsV L)[i*3]? =some (.int .i64 (L.getD i default).1)∧(arsV L)[i*3+1]? =some (.int .i64 (L.getD i default).2.1)∧(arsV L)[i*3+2]? =some (.bool (L.getD i default).2.2)
 |x::r,0,_=>by simp[arsV]
 |x::r,i+1,h=>by
  have ih:=CU r i (by simpa using h)
  have e:arsV (x::r)=[.int .i64 x.1, .int .i64 x.2.1, .bool x.2.2]++arsV r:=by simp[arsV]
  rw[e,show(i+1)*3=i*3+3 by omega]
  simpa[List.getElem?_append_right]using ih
theorem iC.lJ{w:World}{base:Nat}{v:Value}{L:List Ar}(h:w.ownsRow base 23 3 v L.length (arsV L))(hl:L.length≤2000)(hw:∀x∈L,CJ x):iC w v L:=by
 have h':=h
 rcases h.2 with⟨rfl,h0⟩|⟨g,cap,cur,rfl,hb,hgg,_⟩
 ·exact⟨none,0,by rw[h0],hl,hw,Or.inl (List.eq_nil_of_length_eq_zero h0)⟩
 ·refine⟨_,_,rfl,hl,hw,Or.inr ⟨g,0,rfl,lt_of_block hgg,fun i hi=>?_⟩⟩
  obtain⟨a0,a1,a2⟩:=CU L i hi
  have b0:=h'.cells (g:=g) rfl _ _ a0
  have b1:=h'.cells (g:=g) rfl _ _ a1
  have b2:=h'.cells (g:=g) rfl _ _ a2
  rw[Addr.add_mid]at b0 b1 b2
  exact⟨b0,b1,b2⟩
structure uW(w:World)(v:Value)(L:List Ar):Prop where
 at_:iC w v L
 ty:∀a n c,v= .slice (some a) n c→∃cs z,w.heap[a.block]? =some (.cells cs 23 z)
theorem uW.nil(w:World):uW w (.slice none 0 0) []:=⟨iC.nil w,fun _ _ _ e=>by cases e⟩
theorem uW.lJ{w:World}{base:Nat}{v:Value}{L:List Ar}(h:w.ownsRow base 23 3 v L.length (arsV L))(hl:L.length≤2000)(hw:∀x∈L,CJ x):uW w v L:=⟨iC.lJ h hl hw,fun a n c e=>by
 rcases h.2 with⟨rfl,_⟩|⟨g,cap,cur,rfl,_,hgg,_⟩
 ·cases e
 ·cases e;exact⟨_,_,hgg⟩⟩
theorem uW.form{w:World}{v:Value}{L:List Ar}(h:uW w v L):∃a c,v= .slice a L.length c:=h.at_.form
theorem uW.below{w w':World}{v:Value}{L:List Ar}(h:uW w v L)(hb:Below w.heap.size w w'):uW w' v L:=⟨h.at_.below hb,fun a n c e=>by
 obtain⟨cs,z,hk⟩:=h.ty a n c e
 exact⟨cs,z,(hb.block _ (lt_of_block hk)).trans hk⟩⟩
theorem mh(f m:Int)(hf:I64 f)(hm:I64 m)(w:World):Calls Tryz.prog 146 #[.int .i64 f, .int .i64 m] w fun e w'=>e= .returned (.bool (decide (FitD f m)))∧w'=w:=by
 obtain⟨f1,f2⟩:=hf
 obtain⟨m1,m2⟩:=hm
 by_cases h1:0≤f
 ·by_cases h2:1≤m
  ·by_cases h3:m≤1024-f
   ·rw[decide_eq_true (show FitD f m from⟨h1,h2,h3⟩)]
    go_enter Tryz.func146,Tryz.ntmps146
    go_wp2
    go_ret
    exact⟨rfl,rfl⟩
   ·rw[decide_eq_false (show ¬FitD f m from fun h=>h3 h.2.2)]
    go_enter Tryz.func146,Tryz.ntmps146
    go_wp2
    go_ret
    exact⟨rfl,rfl⟩
  ·rw[decide_eq_false (show ¬FitD f m from fun h=>h2 h.2.1)]
   go_enter Tryz.func146,Tryz.ntmps146
   go_wp2
   go_ret
   exact⟨rfl,rfl⟩
 ·rw[decide_eq_false (show ¬FitD f m from fun h=>h1 h.1)]
  go_enter Tryz.func146,Tryz.ntmps146
  go_wp2
  go_ret
  exact⟨rfl,rfl⟩
theorem IU(x y:Int)(b:Bool)(p:Int)(hx:FitD x y)(w:World):Calls Tryz.prog 198 #[.agg #[.int .i64 x, .int .i64 y, .bool b], .int .i64 p] w fun e w'=>e= .returned (.bool (decide (dS (x,y,b) p)))∧Below w.heap.size w w':=by
 obtain⟨x1,x2,x3⟩:=hx
 by_cases h1:x≤p
 ·by_cases h2:p<x+y
  ·rw[decide_eq_true (show dS (x,y,b) p from⟨h1,h2⟩)]
   go_enter Tryz.func198,Tryz.ntmps198
   go_wp2
   go_ret
   exact⟨rfl,(Below.refl _ _).alloc (Nat.le_refl _) _⟩
  ·rw[decide_eq_false (show ¬dS (x,y,b) p from fun h=>h2 h.2)]
   go_enter Tryz.func198,Tryz.ntmps198
   go_wp2
   go_ret
   exact⟨rfl,(Below.refl _ _).alloc (Nat.le_refl _) _⟩
 ·rw[decide_eq_false (show ¬dS (x,y,b) p from fun h=>h1 h.1)]
  go_enter Tryz.func198,Tryz.ntmps198
  go_wp2
  go_ret
  exact⟨rfl,(Below.refl _ _).alloc (Nat.le_refl _) _⟩
theorem uL(x y:Int)(b:Bool)(x' y':Int)(b':Bool)(hx:FitD x y)(hx':I64 x')(w:World):Calls Tryz.prog 204 #[.agg #[.int .i64 x, .int .i64 y, .bool b], .agg #[.int .i64 x', .int .i64 y', .bool b']] w fun e w'=>e= .returned (.bool (decide (kP (x,y,b) (x',y',b'))))∧Below w.heap.size w w':=by
  obtain⟨x1,x2,x3⟩:=hx
  obtain⟨p1,p2⟩:=hx'
  have hbw:∀o o',Below w.heap.size w ((w.alloc o).alloc o'):=fun o o'=>((Below.refl _ _).alloc (Nat.le_refl _) _).alloc (by simp) _
  have HB:=Lib.hid hbw
  clear hbw
  by_cases h1:x+y<x'
  · rw[decide_eq_true (show kP (x,y,b) (x',y',b')from Or.inl h1)]
    go_enter Tryz.func204,Tryz.ntmps204
    go_wp2
    go_ret
    exact⟨rfl,HB.out _ _⟩
  · by_cases h2:x'=x+y
    · have h3:(x'==x+y)=true:=by simpa using h2
      have e:decide (kP (x,y,b) (x',y',b'))=(b' !=b):=by
        cases b<;>cases b'<;>simp[kP,h2]
      rw[e]
      clear e h2
      cases b<;>cases b'<;>
        (go_enter Tryz.func204,Tryz.ntmps204
         go_wp2
         go_ret
         exact⟨rfl,HB.out _ _⟩)
    · have h3:(x'==x+y)=false:=by simpa using h2
      rw[decide_eq_false (show ¬kP (x,y,b) (x',y',b')from fun h=>by rcases h with h|h<;>simp only at h<;>omega)]
      clear h2
      go_enter Tryz.func204,Tryz.ntmps204
      go_wp2
      go_ret
      exact⟨rfl,HB.out _ _⟩
end Go.Proofs.YtammlljefhakmaaGreatDoor
namespace Go.Proofs.YtammlljefhakmaaGreatDoor
open Go.RowKit Go.Maps
set_option maxRecDepth 100000
abbrev abE(o:Option Bool):Ending:= .returned (.tuple #[.bool (o==some true), .bool o.isSome])
theorem adu{L:List Ar}(up:mF L){j:Nat}(hj:j<L.length){p:Int}(h:dS (L.getD j default) p):fF L p=some (L.getD j default).2.2:=iP up (CP hj) h
theorem aam{L:List Ar}{p:Int}(h:∀i,i<L.length→¬dS (L.getD i default) p):fF L p=none:=nY fun x hx=>by
 obtain⟨i,hi,rfl⟩:=List.getElem_of_mem hx
 have:=h i hi
 rwa [List.getD_eq_getElem?_getD,List.getElem?_eq_getElem hi]at this
theorem Xp{L:List Ar}(up:mF L){j:Nat}(hj:j<L.length):FitD (L.getD j default).1 (L.getD j default).2.1:=up.fit _ (CP hj)
set_option maxHeartbeats 1000000 in
theorem CY(L:List Ar)(up:mF L)(v:Value)(p:Int)(w:World)(h:iC w v L):Calls Tryz.prog 199 #[v, .int .i64 p] w fun e w'=>e=abE (fF L p)∧Below w.heap.size w w':=by
 have hl:=h.len
 obtain⟨a,c,rfl⟩:=h.form
 obtain⟨n,hn⟩:∃n,n=L.length:=⟨_,rfl⟩
 rw[←hn]at hl h ⊢
 obtain⟨r,hr⟩:∃r,r=fF L p:=⟨_,rfl⟩
 rw[←hr]
 have HR:=Lib.hid hr
 have H:=Lib.hid h
 have HN:=Lib.hid hn
 have UP:=Lib.hid up
 clear hn h up hr
 go_enter Tryz.func199,Tryz.ntmps199
 go_wp2_with fail
 go_loopw [10] (fun i wr=>∃j:Nat,i= .int .i64 (j:Int)∧j≤n∧Below w.heap.size w wr∧∀i,i<j→¬dS (L.getD i default) p) (fun i _=>(n-(intOf i).toNat))
 case atStart=>exact⟨0,rfl,Nat.zero_le _,Below.refl _ _,fun i hi=>absurd hi (Nat.not_lt_zero _)⟩
 case round=>
  obtain⟨j,rfl,hj,hB,hlow⟩:=hrel
  have B:=Lib.hid hB
  have LOW:=Lib.hid hlow
  clear hB hlow
  by_cases hlt:j<n
  ·have hjl:j<L.length:=by rw[←HN.out];exact hlt
   obtain⟨⟨x,y,b⟩,hy⟩:∃y,L.getD j default=y:=⟨_,rfl⟩
   obtain⟨g,o,rfl,hbl, -,c0,c1,c2⟩:=(H.out.below B.out).at_ (by rw[←HN.out];exact hlt) hy
   simp only at c0 c1 c2
   have hf:=Xp UP.out hjl
   have hhit:=adu (p:=p) UP.out hjl
   rw[hy]at hf hhit
   have HF:=Lib.hid hf
   have HIT:=Lib.hid hhit
   have HY:=Lib.hid hy
   clear hf hhit hy
   go_wp2_with fail
   refine(IU x y b p HF.out _).mono ?_
   rintro e w1 ⟨rfl,hb1⟩
   have R1:=Lib.hid (below_block hb1 (heap_alloc_new wr (.cells #[.int .i64 x, .int .i64 y, .bool b] 23)))
   have B1:=Lib.hid ((B.out.alloc B.out.size (.cells #[.int .i64 x, .int .i64 y, .bool b] 23)).trans (hb1.mono (by have:=B.out.size;simp;omega)))
   clear hb1
   obtain⟨d0,d1,d2⟩:=cells3 R1.out
   by_cases hh:dS (x,y,b) p
   ·obtain rfl:r=some b:=HR.out.trans (HIT.out hh)
    have hd:decide (dS (x,y,b) p)=true:=decide_eq_true hh
    rw[hd]
    clear hd hh
    go_wp2_with fail
    go_ret2
    exact⟨by cases b<;>rfl,B1.out⟩
   ·have ahw:Hid (∀i,i<j+1→¬dS (L.getD i default) p):=Lib.hid fun i hi=>by
     by_cases e:i=j
     ·rw[e,HY.out];exact hh
     ·exact LOW.out i (by omega)
    have hd:decide (dS (x,y,b) p)=false:=decide_eq_false hh
    rw[hd]
    clear hd hh
    go_wp2_with fail
    go_roundw
    case rel=>exact⟨j+1,by go_num,by omega,B1.out,ahw.out⟩
    case measure=>simp[intOf];omega
  ·obtain rfl:j=n:=by omega
   obtain rfl:r=none:=HR.out.trans (aam (by rw[←HN.out];exact LOW.out))
   clear hlt
   go_wp2
   go_ret2
   exact⟨rfl,B.out⟩
set_option maxHeartbeats 1000000 in
theorem Lh(L:List Ar)(up:mF L)(v:Value)(f m:Int)(hf:FitD f m)(w:World)(h:iC w v L):Calls Tryz.prog 147 #[v, .int .i64 f, .int .i64 m] w fun e w'=>e= .returned (.int .i64 (qj (fun p=>(fF L p).isSome) f m.toNat))∧Below w.heap.size w w':=by
 obtain⟨f1,f2,f3⟩:=hf
 obtain⟨n,rfl⟩:∃n:Nat,m=(n:Int):=⟨m.toNat,by omega⟩
 obtain⟨P,hP⟩:∃P,P=fun p=>(fF L p).isSome:=⟨_,rfl⟩
 rw[←hP,Int.toNat_natCast]
 have FOK:Hid (∀V p,Below w.heap.size w V→Calls Tryz.prog 199 #[v, .int .i64 p] V fun e w'=>e= .returned (.tuple #[.bool (fF L p==some true), .bool (P p)])∧Below V.heap.size V w'):=Lib.hid fun V p hb=>by rw[hP];exact CY L up v p V (h.below hb)
 clear hP h up
 go_enter Tryz.func147,Tryz.ntmps147
 go_wp2_with fail
 go_loopw [7,12] (fun s i wr=>∃j:Nat,i= .int .i64 (j:Int)∧j≤n∧Below w.heap.size w wr∧s= .int .i64 (qj P f j)) (fun _ i _=>(n-(intOf i).toNat))
 case atStart=>exact⟨0,rfl,Nat.zero_le _,Below.refl _ _,rfl⟩
 case round=>
  obtain⟨j,rfl,hj,hB,rfl⟩:=hrel
  have B:=Lib.hid hB
  clear hB
  by_cases hlt:j<n
  ·obtain⟨b1,b2⟩:=AJ P f j
   have hc:qj P f (j+1)=qj P f j+if P (f+j)then 1 else 0:=rfl
   obtain⟨q,hq⟩:∃q,q=qj P f j:=⟨_,rfl⟩
   rw[←hq]at b1 b2 hc ⊢
   have HQ:=Lib.hid hq
   clear hq
   cases hp:P (f+j)with
   |true=>
    rw[hp,if_pos rfl]at hc
    have HC:=Lib.hid hc
    have HP:=Lib.hid hp
    clear hc hp
    go_wp2_with(go_at_call 199;refine(FOK.out _ _ B.out).mono ?_;rintro e w1 ⟨rfl,hb1⟩;rw[HP.out];have B1:=Lib.hid (B.out.trans (hb1.mono B.out.size));clear hb1)
    go_roundw
    case rel=>exact⟨j+1,by go_num,by omega,B1.out,by rw[HC.out]⟩
    case measure=>simp[intOf];omega
   |false=>
    rw[hp,if_neg (by simp),Int.add_zero]at hc
    have HC:=Lib.hid hc
    have HP:=Lib.hid hp
    clear hc hp
    go_wp2_with(go_at_call 199;refine(FOK.out _ _ B.out).mono ?_;rintro e w1 ⟨rfl,hb1⟩;rw[HP.out];have B1:=Lib.hid (B.out.trans (hb1.mono B.out.size));clear hb1)
    go_roundw
    case rel=>exact⟨j+1,by go_num,by omega,B1.out,by rw[HC.out]⟩
    case measure=>simp[intOf];omega
  ·obtain rfl:j=n:=by omega
   clear hlt
   go_wp2
   go_ret
   exact⟨rfl,B.out⟩
end Go.Proofs.YtammlljefhakmaaGreatDoor
namespace Go.Proofs.YtammlljefhakmaaGreatDoor
open Go.RowKit Go.Maps
set_option maxRecDepth 100000
def Ti(L:List Ar)(k:Int):Prop:=qQ L∧k=0∨¬qQ L∧k=2
theorem IV(L:List Ar):∃k,Ti L k:=by
 by_cases h:qQ L
 ·exact⟨0,Or.inl ⟨h,rfl⟩⟩
 ·exact⟨2,Or.inr ⟨h,rfl⟩⟩
theorem Ql{L:List Ar}{j:Nat}(h:mF (L.take j))(hj:j<L.length){x:Ar}(hx:L.getD j default=x)(hf:FitD x.1 x.2.1)(hl:∀k y,j=k+1→L.getD k default=y→kP y x):mF (L.take (j+1)):=by
 have e:x=L[j]:=by rw[←hx];simp[List.getD_eq_getElem?_getD,hj]
 rw[List.take_succ_eq_append_getElem hj,←e]
 refine Lg h hf fun y hy=>?_
 cases j with
 |zero=>simp at hy
 |succ k=>
  refine hl k y rfl ?_
  have hk:k<L.length:=by omega
  rw[List.take_succ_eq_append_getElem hk,List.getLast?_concat]at hy
  rw[List.getD_eq_getElem?_getD,List.getElem?_eq_getElem hk]
  exact Option.some.inj hy
theorem aan{L:List Ar}{j:Nat}(hj:j<L.length){x:Ar}(hx:L.getD j default=x)(hf:¬FitD x.1 x.2.1):¬qQ L:=fun h=>hf (by rw[←hx];exact Xp h.up hj)
theorem aao{L:List Ar}{k:Nat}(hk:k+1<L.length){x y:Ar}(hy:L.getD k default=y)(hx:L.getD (k+1) default=x)(hf:¬kP y x):¬qQ L:=fun h=>hf (by
 have:=List.pairwise_iff_getElem.1 h.up.ord k (k+1) (by omega) hk (by omega)
 rw[←hy,←hx]
 simpa[List.getD_eq_getElem?_getD,List.getElem?_eq_getElem hk,List.getElem?_eq_getElem (show k<L.length by omega)]using this)
theorem adv{L:List Ar}{j:Nat}(h:mF (L.take (j+1)))(hj:j<L.length):FitD (L.getD j default).1 (L.getD j default).2.1:=h.fit _ (by
 rw[List.take_succ_eq_append_getElem hj,List.getD_eq_getElem?_getD,List.getElem?_eq_getElem hj]
 exact List.mem_append_right _ (List.mem_singleton.2 rfl))
theorem Ti.bad{L:List Ar}{k:Int}(h:Ti L k)(n:¬qQ L):k=2:=by
 rcases h with⟨a,_⟩|⟨_,e⟩
 ·exact absurd a n
 ·exact e
theorem Ti.good{L:List Ar}{k:Int}(h:Ti L k)(n:qQ L):k=0:=by
 rcases h with⟨_,e⟩|⟨a,_⟩
 ·exact e
 ·exact absurd n a
set_option maxHeartbeats 4000000 in
theorem uM(L:List Ar)(v:Value)(w:World)(h:iC w v L){k:Int}(hk:Ti L k):Calls Tryz.prog 145 #[v] w fun e w'=>e= .returned (.int .i64 k)∧Below w.heap.size w w':=by
 have hl:=h.len
 obtain⟨a,c,rfl⟩:=h.form
 obtain⟨n,hn⟩:∃n,n=L.length:=⟨_,rfl⟩
 rw[←hn]at hl h ⊢
 have H:=Lib.hid h
 have HN:=Lib.hid hn
 have HK:=Lib.hid hk
 clear hn h hk
 by_cases h8:8<n
 ·obtain rfl:k=2:=HK.out.bad fun h=>by have:=h.few;have:=HN.out;omega
  go_enter Tryz.func145,Tryz.ntmps145
  go_wp2
  go_ret
  exact⟨rfl,Below.refl _ _⟩
 go_enter Tryz.func145,Tryz.ntmps145
 go_wp2_with fail
 go_loopw [10] (fun i wr=>∃j:Nat,i= .int .i64 (j:Int)∧j≤n∧Below w.heap.size w wr∧mF (L.take j)) (fun i _=>(n-(intOf i).toNat))
 case atStart=>exact⟨0,rfl,Nat.zero_le _,Below.refl _ _,by simpa using mF.nil⟩
 case round=>
  obtain⟨j,rfl,hj,hB,hup⟩:=hrel
  have B:=Lib.hid hB
  have UP:=Lib.hid hup
  clear hB hup
  by_cases hlt:j<n
  ·have hjl:j<L.length:=by rw[←HN.out];exact hlt
   obtain⟨⟨x,y,b⟩,hy⟩:∃y,L.getD j default=y:=⟨_,rfl⟩
   obtain⟨g,o,rfl,hbl,hwd,c0,c1,c2⟩:=(H.out.below B.out).at_ hjl hy
   simp only at c0 c1 c2
   have HW:=Lib.hid hwd
   clear hwd
   have HY:=Lib.hid hy
   clear hy
   by_cases hf:FitD x y
   ·have hd:decide (FitD x y)=true:=decide_eq_true hf
    have HF:=Lib.hid hf
    have AP:Hid (∀V,Calls Tryz.prog 146 #[.int .i64 x, .int .i64 y] V fun e w'=>e= .returned (.bool true)∧w'=V):=Lib.hid fun V=>by rw[←hd];exact mh x y HW.out.1 HW.out.2 V
    clear hd hf
    cases j with
    |zero=>
     simp only[Nat.zero_mul,Nat.add_zero]at c0 c1 c2
     have UP1:Hid (mF (L.take (0+1))):=Lib.hid (Ql UP.out hjl HY.out HF.out (fun k y hk _=>by omega))
     have B1:=Lib.hid (B.out.alloc B.out.size (.cells #[.int .i64 x, .int .i64 y, .bool b] 23))
     go_wp2_with fail
     go_quiet ((go_at_call 146;exact Calls.quiet_of_same (AP.out _)))
     go_wp2
     go_roundw
     case rel=>exact⟨0+1,by go_num,by omega,below_drewN B1.out _,UP1.out⟩
     case measure=>simp[intOf];omega
    | succ q=>
     have hql:q<L.length:=by omega
     obtain⟨⟨x',y',b'⟩,hy'⟩:∃y,L.getD q default=y:=⟨_,rfl⟩
     obtain⟨g',o',he,adw,ahy,c0',c1',c2'⟩:=(H.out.below B.out).at_ hql hy'
     simp only[Option.some.injEq,Addr.mk.injEq,and_true]at he
     obtain⟨rfl,rfl⟩:=he
     simp only at c0' c1' c2'
     have hf':=adv UP.out hql
     rw[hy']at hf'
     have HF':=Lib.hid hf'
     have HY':=Lib.hid hy'
     clear hf' hy' ahy
     obtain⟨j,hjq⟩:∃j,j=q+1:=⟨_,rfl⟩
     rw[←hjq]at c0 c1 c2 hlt hj ⊢
     have wr1:IntKind.i64.wrap ((j:Int)-1)=(q:Int):=(IntWalk.i64_in _ (by omega)).trans (by omega)
     have hdj:decide (0<j)=true:=decide_eq_true (by omega)
     have hqn:q<n:=by omega
     have JQ:=Lib.hid hjq
     clear hjq
     have BX:Hid (∀V,Below (wr.alloc (.cells #[.int .i64 x, .int .i64 y, .bool b] 23)).heap.size (wr.alloc (.cells #[.int .i64 x, .int .i64 y, .bool b] 23)) V→(V.cell? ⟨wr.heap.size,0,none⟩=some (.int .i64 x)∧V.cell? ⟨wr.heap.size,1,none⟩=some (.int .i64 y)∧V.cell? ⟨wr.heap.size,2,none⟩=some (.bool b))∧V.cell? ⟨g,o+q*3,none⟩=some (.int .i64 x')∧V.cell? ⟨g,o+q*3+1,none⟩=some (.int .i64 y')∧V.cell? ⟨g,o+q*3+2,none⟩=some (.bool b')):=Lib.hid fun V hb=>by
      have k1:=hb.trans (Below.refl _ _)
      have kb:Below wr.heap.size wr V:=((Below.refl _ _).alloc (Nat.le_refl _) _).trans (hb.mono (by simp))
      have k:∀q,V.cell? ⟨g,q,none⟩=wr.cell? ⟨g,q,none⟩:=fun q=>kb.cell (p:=⟨g,q,none⟩) hbl
      exact⟨cells3 (below_block hb (heap_alloc_new wr _)),(k _).trans c0',(k _).trans c1',(k _).trans c2'⟩
     have B1:=Lib.hid (B.out.alloc B.out.size (.cells #[.int .i64 x, .int .i64 y, .bool b] 23))
     have R1:=Lib.hid (Below.refl (wr.alloc (.cells #[.int .i64 x, .int .i64 y, .bool b] 23)).heap.size (wr.alloc (.cells #[.int .i64 x, .int .i64 y, .bool b] 23)))
     clear c0' c1' c2'
     by_cases hg:kP (x',y',b') (x,y,b)
     ·have UP1:Hid (mF (L.take (j+1))):=Lib.hid (by rw[JQ.out];exact Ql UP.out hjl HY.out HF.out (fun k y hk hy=>by
       obtain rfl:k=q:=by omega
       rw[←hy,HY'.out];exact hg))
      have hd:decide (kP (x',y',b') (x,y,b))=true:=decide_eq_true hg
      have MF:Hid (∀V,Calls Tryz.prog 204 #[.agg #[.int .i64 x', .int .i64 y', .bool b'], .agg #[.int .i64 x, .int .i64 y, .bool b]] V fun e w'=>e= .returned (.bool true)∧Below V.heap.size V w'):=Lib.hid fun V=>by rw[←hd];exact uL x' y' b' x y b HF'.out HW.out.1 V
      clear hd hg
      go_wp2_with fail
      go_region_held3 (fun V=>(V.cell? ⟨wr.heap.size,0,none⟩=some (.int .i64 x)∧V.cell? ⟨wr.heap.size,1,none⟩=some (.int .i64 y)∧V.cell? ⟨wr.heap.size,2,none⟩=some (.bool b))∧V.cell? ⟨g,o+q*3,none⟩=some (.int .i64 x')∧V.cell? ⟨g,o+q*3+1,none⟩=some (.int .i64 y')∧V.cell? ⟨g,o+q*3+2,none⟩=some (.bool b')) (first|with_reducible exact BX.out _ R1.out.drew|with_reducible exact BX.out _ R2.out)
       (first
        |(go_at_call 146;refine(AP.out _).mono ?_;rintro e w2 ⟨rfl,rfl⟩)
        |(go_at_call 204;refine(MF.out _).mono ?_;rintro e w2 ⟨rfl,hb2⟩;have R2:=Lib.hid (R1.out.drew.trans (hb2.mono (by exact R1.out.drew.size)));clear hb2))
      clear hdj wr1
      go_wp2
      go_roundw
      case rel=>exact⟨j+1,by go_num,by omega,B1.out.trans (R2.out.mono (by have:=B1.out.size;omega)),UP1.out⟩
      case measure=>simp[intOf];omega
     ·obtain rfl:k=2:=HK.out.bad (aao hjl HY'.out HY.out hg)
      have hd:decide (kP (x',y',b') (x,y,b))=false:=decide_eq_false hg
      have MF:Hid (∀V,Calls Tryz.prog 204 #[.agg #[.int .i64 x', .int .i64 y', .bool b'], .agg #[.int .i64 x, .int .i64 y, .bool b]] V fun e w'=>e= .returned (.bool false)∧Below V.heap.size V w'):=Lib.hid fun V=>by rw[←hd];exact uL x' y' b' x y b HF'.out HW.out.1 V
      clear hd hg
      go_wp2_with fail
      go_region_held3 (fun V=>(V.cell? ⟨wr.heap.size,0,none⟩=some (.int .i64 x)∧V.cell? ⟨wr.heap.size,1,none⟩=some (.int .i64 y)∧V.cell? ⟨wr.heap.size,2,none⟩=some (.bool b))∧V.cell? ⟨g,o+q*3,none⟩=some (.int .i64 x')∧V.cell? ⟨g,o+q*3+1,none⟩=some (.int .i64 y')∧V.cell? ⟨g,o+q*3+2,none⟩=some (.bool b')) (first|with_reducible exact BX.out _ R1.out.drew|with_reducible exact BX.out _ R2.out)
       (first
        |(go_at_call 146;refine(AP.out _).mono ?_;rintro e w2 ⟨rfl,rfl⟩)
        |(go_at_call 204;refine(MF.out _).mono ?_;rintro e w2 ⟨rfl,hb2⟩;have R2:=Lib.hid (R1.out.drew.trans (hb2.mono (by exact R1.out.drew.size)));clear hb2))
      clear hdj wr1
      go_wp2
      go_ret
      exact⟨rfl,B1.out.trans (R2.out.mono (by have:=B1.out.size;omega))⟩
   ·obtain rfl:k=2:=HK.out.bad (aan hjl HY.out hf)
    have hd:decide (FitD x y)=false:=decide_eq_false hf
    have AP:Hid (∀V,Calls Tryz.prog 146 #[.int .i64 x, .int .i64 y] V fun e w'=>e= .returned (.bool false)∧w'=V):=Lib.hid fun V=>by rw[←hd];exact mh x y HW.out.1 HW.out.2 V
    clear hd hf
    have B1:=Lib.hid (B.out.alloc B.out.size (.cells #[.int .i64 x, .int .i64 y, .bool b] 23))
    go_wp2_with fail
    go_quiet ((go_at_call 146;exact Calls.quiet_of_same (AP.out _)))
    go_wp2
    go_ret
    exact⟨rfl,below_drewN B1.out _⟩
  ·obtain rfl:j=n:=by omega
   obtain rfl:k=0:=HK.out.good ⟨by rw[←HN.out];omega,by have:=UP.out;rwa [HN.out,List.take_length]at this⟩
   clear hlt
   go_wp2
   go_ret
   exact⟨rfl,B.out⟩
end Go.Proofs.YtammlljefhakmaaGreatDoor
namespace Go.Proofs.YtammlljefhakmaaGreatDoor
open Go.RowKit Go.Maps
set_option maxRecDepth 100000
theorem Li:(Tryz.prog.info? 23).map (fun i=>(i.zero,i.size,i.bytes))=some (some (.agg #[.int .i64 0, .int .i64 0, .bool false]),3,24):=by kernel_rfl
theorem Xq(w:World):(zeroValue 23).run Tryz.prog w= .ok (.agg #[.int .i64 0, .int .i64 0, .bool false]) w:=by kernel_rfl
theorem below_grown{base:Nat}{w a w':World}{r:Option Nat}(hB:Below base w a)(hg:a.grownBy w' r)(hb:base≤w.heap.size)(hr:∀g,r=some g→base≤g):Below base w w':=
 ⟨hg.os.trans hB.os,hg.tape.trans hB.tape,hg.output.trans hB.output,Nat.le_trans hB.size hg.size,fun k hk=>(hg.block k (by have:=hB.size;omega) (fun e=>by have:=hr k e.symm;omega)).trans (hB.block k hk)⟩
theorem tJ{w:World}{base k n:Nat}{e:TypeId}{v:Value}{xs:List Value}(h:w.ownsRow base e k v n xs):∀g,v.ownBlock=some g→base≤g:=fun g hg=>(h.lt g hg).1
theorem yI(L:List Ar)(x:Ar):arsV (L++[x])=arsV L++[.int .i64 x.1, .int .i64 x.2.1, .bool x.2.2]:=by simp[arsV]
theorem CZ(L:List Ar):(arsV L).length=L.length*3:=by
 induction L with
 |nil=>rfl
 |cons x r ih=>simp only[arsV,List.flatMap_cons,List.length_append,List.length_cons,List.length_nil]at ih ⊢;omega
theorem Tj(L:List Ar)(x:Ar)(m:Int):(arsV (L++[x])).set (L.length*3+1) (.int .i64 m)=arsV (L++[(x.1,m,x.2.2)]):=by
 rw[yI,yI,←CZ,List.set_append_right _ _ (by omega)]
 simp
theorem Lj(w:World)(a b c:Value)(t:TypeId):∀j u,[a,b,c][j]? =some u→(w.alloc (.cells #[a,b,c] t)).cell? ((⟨w.heap.size,0,none⟩:Addr).add j)=some u:=fun j u hu=>by
 rw[Addr.add_mid,Nat.zero_add,cell_of_row _ _ _ _ _ _ (heap_alloc_new w _)]
 simpa using hu
theorem last_at(L:List Ar)(x:Ar):(L++[x]).getD L.length default=x:=by simp[List.getD_eq_getElem?_getD]
theorem mF.wide{L:List Ar}(h:mF L):∀x∈L,CJ x:=fun x hx=>(h.fit x hx).wide
theorem iQ.row{f:Int→Option Bool}{k:Int}{L:List Ar}(h:iQ f k L){w:World}{base:Nat}{v:Value}(ho:w.ownsRow base 23 3 v L.length (arsV L)):uW w v L:=uW.lJ ho (by have:=h.up.len;omega) h.up.wide
theorem Ll{w':World}{base:Nat}{v:Value}{L:List Ar}{x:Ar}(ho:w'.ownsRow base 23 3 v (L.length+1) (arsV L++[.int .i64 x.1, .int .i64 x.2.1, .bool x.2.2])):w'.ownsRow base 23 3 v (L++[x]).length (arsV (L++[x])):=by
 rw[yI,List.length_append];exact ho
theorem Lm(L:List Ar):L=[]∨∃K y,L=K++[y]:=by
 rcases List.eq_nil_or_concat L with h|⟨K,y,h⟩
 ·exact Or.inl h
 ·exact Or.inr ⟨K,y,by rw[h,List.concat_eq_append]⟩
structure Lp(f:Int→Option Bool)(w wr:World)(j:Nat)(L:List Ar)(v:Value):Prop where
 row:wr.ownsRow w.heap.size 23 3 v L.length (arsV L)
 part:iQ f (j:Int) L
 below:Below w.heap.size w wr
set_option maxHeartbeats 8000000 in
theorem aap(u:Int→Bool)(f:Int→Option Bool)(ka ki kl:Nat)(w:World)(hf0:∀p,p<0→f p=none)(hf1:∀p,1024≤p→f p=none)(hu:∀p b,f p=some b→u p=b)
  (hs:∀(V:World) (p:Int),0≤p→p<1024→Below w.heap.size w V→Calls Tryz.prog 197 #[.int .i64 p, .pointer (some ⟨ka,0,none⟩), .pointer (some ⟨ki,0,none⟩), .pointer (some ⟨kl,0,none⟩)] V fun e w'=>e= .returned (.tuple #[.bool (u p), .bool (f p).isSome])∧Below V.heap.size V w'):
  Calls Tryz.prog 196 #[.func (.func 197) #[] #[.pointer (some ⟨ka,0,none⟩), .pointer (some ⟨ki,0,none⟩), .pointer (some ⟨kl,0,none⟩)]] w fun e w'=>∃v er M,e= .returned (.tuple #[v, .int .i64 er])∧pz f er M∧uW w' v M∧Below w.heap.size w w':=by
 obtain⟨ii,hi,hi0,hi1,hi2⟩:=info_parts Li
 have HS:=Lib.hid hs
 have HU:=Lib.hid hu
 have F0:=Lib.hid hf0
 have F1:=Lib.hid hf1
 clear hs hu hf0 hf1
 go_enter Tryz.func196,Tryz.ntmps196
 go_wp2_with fail
 go_loopw [4,10] (fun v i wr=>∃(j:Nat) (L:List Ar),i= .int .i64 (j:Int)∧j≤1024∧Lp f w wr j L v) (fun _ i _=>(1024-(intOf i).toNat))
 case atStart=>exact⟨0,[],rfl,Nat.zero_le _,World.ownsRow_nil _ _ _ _,iQ.zero F0.out,Below.refl _ _⟩
 case round=>
  obtain⟨j,L,rfl,hj,hF⟩:=hrel
  have FO:=Lib.hid hF
  clear hF
  obtain⟨a1,c1,rfl⟩:=jE FO.out.row
  by_cases hlt:j<1024
  ·have SAY:=Lib.hid (HS.out wr (j:Int) (by omega) (by omega) FO.out.below)
   cases hp:f (j:Int)with
   |none=>
    have PA:Hid (iQ f ((j+1:Nat):Int) L):=Lib.hid (FO.out.part.skip hp)
    rw[hp]at SAY
    simp only[Option.isSome]at SAY
    clear hp
    go_wp2_with fail
    refine SAY.out.mono ?_
    rintro e w1 ⟨rfl,hb1⟩
    have FN:Hid (Lp f w w1 (j+1) L (.slice a1 L.length c1)):=Lib.hid ⟨gN FO.out.row hb1,PA.out,FO.out.below.trans (hb1.mono FO.out.below.size)⟩
    clear hb1
    go_wp2
    go_roundw
    case rel=>exact⟨j+1,L,by go_num,by omega,FN.out⟩
    case measure=>simp[intOf];omega
   | some b=>
    have HP:=Lib.hid hp
    rw[hp,HU.out _ _ hp]at SAY
    simp only[Option.isSome]at SAY
    clear hp
    have hL:=FO.out.part.up.len
    rcases Lm L with rfl|⟨K,y,rfl⟩
    ·have PA:Hid (iQ f ((j+1:Nat):Int) ([]++[((j:Int),1,b)])):=Lib.hid (FO.out.part.new ⟨by omega,by omega⟩ HP.out (fun y hy=>by simp at hy))
     have O0:=Lib.hid FO.out.row
     simp only[List.length_nil]at O0 ⊢
     go_wp2_with fail
     refine SAY.out.mono ?_
     rintro e w1 ⟨rfl,hb1⟩
     have G3:Hid (∀nq,((w1.alloc (.cells #[.int .i64 (j:Int), .int .i64 1, .bool b] 23)).drewN nq).heap[w1.heap.size]? =some (.cells #[.int .i64 (j:Int), .int .i64 1, .bool b] 23 (0,0))∧((w1.alloc (.cells #[.int .i64 (j:Int), .int .i64 1, .bool b] 23)).drewN nq).ownsRow w.heap.size 23 3 (.slice a1 0 c1) 0 (arsV [])∧Below w.heap.size w ((w1.alloc (.cells #[.int .i64 (j:Int), .int .i64 1, .bool b] 23)).drewN nq)):=Lib.hid fun nq=>by
      have hb2:=(hb1.alloc hb1.size (.cells #[.int .i64 (j:Int), .int .i64 1, .bool b] 23))
      exact⟨heap_alloc_new w1 _,gN O0.out (below_drewN hb2 nq),FO.out.below.trans ((below_drewN hb2 nq).mono FO.out.below.size)⟩
     clear hb1
     go_wp2_with fail
     go_quiet (fail)
     have g3:=G3.out nq
     clear G3
     generalize(w1.alloc (.cells #[.int .i64 (j:Int), .int .i64 1, .bool b] 23)).drewN nq=w3 at g3 ⊢
     obtain⟨r3,o3,b3⟩:=g3
     have R3:=Lib.hid r3
     have O3:=Lib.hid o3
     have B3:=Lib.hid b3
     clear r3 o3 b3
     obtain⟨d0,d1,d2⟩:=cells3 R3.out
     have A4:Hid (Below w3.heap.size w3 (w3.alloc (.cells #[.int .i64 (j:Int), .int .i64 1, .bool b] 23))):=Lib.hid ((Below.refl _ _).alloc (Nat.le_refl _) _)
     have O4:=Lib.hid (O3.out.alloc (.cells #[.int .i64 (j:Int), .int .i64 1, .bool b] 23))
     have Z4:Hid (w.heap.size≤(w3.alloc (.cells #[.int .i64 (j:Int), .int .i64 1, .bool b] 23)).heap.size):=Lib.hid (Nat.le_trans B3.out.size A4.out.size)
     go_wp2_with(at_builtin;refine wpList_append_own _ rfl (.tmp 37) (.tmp 39) 81 rfl w.heap.size 23 ii (.agg #[.int .i64 0, .int .i64 0, .bool false]) 3 24 Tryz.underlying81 hi hi0 hi1 hi2 rfl (by decide) _ 0 _ rfl O4.out ⟨w3.heap.size,0,none⟩ 1 1 [.int .i64 (j:Int), .int .i64 1, .bool b] rfl rfl (Lj _ _ _ _ _) (by simp[Value.oneCell']) (by unfold maxLen;omega) (by omega) Z4.out ?_;intro v5 w5 ho hg _;have F5:Hid (Lp f w w5 (j+1) ([]++[((j:Int),1,b)]) v5):=Lib.hid ⟨Ll (L:=[]) (x:=((j:Int),1,b)) (by exact ho),PA.out,below_grown (B3.out.trans (A4.out.mono B3.out.size)) hg (Nat.le_refl _) (fun g hg=>tJ O4.out g hg)⟩;clear ho hg)
     go_wp2
     go_roundw
     case rel=>exact⟨j+1,[]++[((j:Int),1,b)],by go_num,by omega,F5.out⟩
     case measure=>simp[intOf];omega
    ·obtain⟨x,y,d⟩:=y
     have hfy:=FO.out.part.up.fit (x,y,d) (by simp)
     obtain⟨g,hg⟩:∃g,a1=some ⟨g,0,none⟩:=by
      rcases FO.out.row.2 with⟨h0,hl0⟩|⟨g,cap,cur,h0,_⟩
      ·simp at hl0
      ·injection h0 with h0
       exact⟨g,h0⟩
     subst hg
     obtain⟨q,hq⟩:∃q,q=K.length:=⟨_,rfl⟩
     obtain⟨m,hm⟩:∃m,m=q+1:=⟨_,rfl⟩
     have hmL:(K++[(x,y,d)]).length=m:=by simp;omega
     have ROW:=Lib.hid FO.out.row
     have AT:=Lib.hid (FO.out.part.row FO.out.row)
     rw[hmL]at ROW AT hL ⊢
     have HFY:=Lib.hid hfy
     have HQ:=Lib.hid hq
     have HML:=Lib.hid hmL
     have hqm:q<m:=by omega
     have hm0:((m:Int)==0)=false:=by simp;omega
     have wr1:IntKind.i64.wrap ((m:Int)-1)=(q:Int):=(IntWalk.i64_in _ (by omega)).trans (by omega)
     have HM:=Lib.hid hm
     clear hfy hq hmL hm
     go_wp2_with fail
     refine SAY.out.mono ?_
     rintro e w1 ⟨rfl,hb1⟩
     have B2:=Lib.hid ((FO.out.below.trans (hb1.mono FO.out.below.size)).alloc (Nat.le_trans FO.out.below.size hb1.size) (.cells #[.int .i64 (j:Int), .int .i64 1, .bool b] 23))
     have T2:=Lib.hid (hb1.alloc hb1.size (.cells #[.int .i64 (j:Int), .int .i64 1, .bool b] 23))
     have BX:Hid (∀V,Below (w1.alloc (.cells #[.int .i64 (j:Int), .int .i64 1, .bool b] 23)).heap.size (w1.alloc (.cells #[.int .i64 (j:Int), .int .i64 1, .bool b] 23)) V→(V.cell? ⟨w1.heap.size,0,none⟩=some (.int .i64 (j:Int))∧V.cell? ⟨w1.heap.size,1,none⟩=some (.int .i64 1)∧V.cell? ⟨w1.heap.size,2,none⟩=some (.bool b))∧V.cell? ⟨g,q*3,none⟩=some (.int .i64 x)∧V.cell? ⟨g,q*3+1,none⟩=some (.int .i64 y)∧V.cell? ⟨g,q*3+2,none⟩=some (.bool d)):=Lib.hid fun V hb=>by
      have hv:iC V (.slice (some ⟨g,0,none⟩) m c1) (K++[(x,y,d)]):=AT.out.at_.below (T2.out.trans (hb.mono T2.out.size))
      obtain⟨g',o',he, -, -,e0,e1,e2⟩:=hv.at_ (i:=q) (x:=(x,y,d)) (by rw[HML.out];exact hqm) (by rw[HQ.out];exact last_at K _)
      simp only[Option.some.injEq,Addr.mk.injEq,and_true]at he
      obtain⟨rfl,rfl⟩:=he
      rw[Nat.zero_add]at e0 e1 e2
      exact⟨cells3 (below_block hb (heap_alloc_new w1 _)),e0,e1,e2⟩
     have R1:=Lib.hid (Below.refl (w1.alloc (.cells #[.int .i64 (j:Int), .int .i64 1, .bool b] 23)).heap.size (w1.alloc (.cells #[.int .i64 (j:Int), .int .i64 1, .bool b] 23)))
     clear hb1
     by_cases hgf:kP (x,y,d) ((j:Int),1,b)
     ·have PA:Hid (iQ f ((j+1:Nat):Int) ((K++[(x,y,d)])++[((j:Int),1,b)])):=Lib.hid (FO.out.part.new ⟨by omega,by omega⟩ HP.out (fun z hz=>by rw[List.getLast?_concat]at hz;rw[←Option.some.inj hz];exact hgf))
      have hd:decide (kP (x,y,d) ((j:Int),1,b))=true:=decide_eq_true hgf
      have MF:Hid (∀V,Calls Tryz.prog 204 #[.agg #[.int .i64 x, .int .i64 y, .bool d], .agg #[.int .i64 (j:Int), .int .i64 1, .bool b]] V fun e w'=>e= .returned (.bool true)∧Below V.heap.size V w'):=Lib.hid fun V=>by rw[←hd];exact uL x y d (j:Int) 1 b HFY.out ⟨by omega,by omega⟩ V
      clear hd hgf
      go_wp2_with fail
      go_region_held3 (fun V=>(V.cell? ⟨w1.heap.size,0,none⟩=some (.int .i64 (j:Int))∧V.cell? ⟨w1.heap.size,1,none⟩=some (.int .i64 1)∧V.cell? ⟨w1.heap.size,2,none⟩=some (.bool b))∧V.cell? ⟨g,q*3,none⟩=some (.int .i64 x)∧V.cell? ⟨g,q*3+1,none⟩=some (.int .i64 y)∧V.cell? ⟨g,q*3+2,none⟩=some (.bool d)) (first|with_reducible exact BX.out _ R1.out.drew|with_reducible exact BX.out _ R2.out)
       (first
        |(go_at_call 204;refine(MF.out _).mono ?_;rintro e w3 ⟨rfl,hb2⟩;have R2:=Lib.hid (R1.out.drew.trans (hb2.mono (by exact R1.out.drew.size)));clear hb2))
      have R3:Hid (w3.heap[w1.heap.size]? =some (.cells #[.int .i64 (j:Int), .int .i64 1, .bool b] 23 (0,0))):=Lib.hid (below_block R2.out (heap_alloc_new w1 _))
      have O3:=Lib.hid (gN ROW.out (T2.out.trans (R2.out.mono T2.out.size)))
      have B3:=Lib.hid (B2.out.trans (R2.out.mono B2.out.size))
      clear hm0
      obtain⟨d0,d1,d2⟩:=cells3 R3.out
      have A4:Hid (Below w3.heap.size w3 (w3.alloc (.cells #[.int .i64 (j:Int), .int .i64 1, .bool b] 23))):=Lib.hid ((Below.refl _ _).alloc (Nat.le_refl _) _)
      have O4:=Lib.hid (O3.out.alloc (.cells #[.int .i64 (j:Int), .int .i64 1, .bool b] 23))
      have Z4:Hid (w.heap.size≤(w3.alloc (.cells #[.int .i64 (j:Int), .int .i64 1, .bool b] 23)).heap.size):=Lib.hid (Nat.le_trans B3.out.size A4.out.size)
      go_wp2_with(at_builtin;refine wpList_append_own _ rfl (.tmp 37) (.tmp 39) 81 rfl w.heap.size 23 ii (.agg #[.int .i64 0, .int .i64 0, .bool false]) 3 24 Tryz.underlying81 hi hi0 hi1 hi2 rfl (by decide) _ m _ rfl O4.out ⟨w3.heap.size,0,none⟩ 1 1 [.int .i64 (j:Int), .int .i64 1, .bool b] rfl rfl (Lj _ _ _ _ _) (by simp[Value.oneCell']) (by unfold maxLen;omega) (by omega) Z4.out ?_;intro v5 w5 ho hg _;have F5:Hid (Lp f w w5 (j+1) ((K++[(x,y,d)])++[((j:Int),1,b)]) v5):=Lib.hid ⟨Ll (L:=(K++[(x,y,d)])) (x:=((j:Int),1,b)) (by rw[HML.out];exact ho),PA.out,below_grown (B3.out.trans (A4.out.mono B3.out.size)) hg (Nat.le_refl _) (fun g hg=>tJ O4.out g hg)⟩;clear ho hg)
      go_wp2
      go_roundw
      case rel=>exact⟨j+1,(K++[(x,y,d)])++[((j:Int),1,b)],by go_num,by omega,F5.out⟩
      case measure=>simp[intOf];omega
     ·have PA:Hid (iQ f ((j+1:Nat):Int) (K++[(x,y+1,d)])):=Lib.hid (FO.out.part.more ⟨by omega,by omega⟩ HP.out hgf)
      have hd:decide (kP (x,y,d) ((j:Int),1,b))=false:=decide_eq_false hgf
      have MF:Hid (∀V,Calls Tryz.prog 204 #[.agg #[.int .i64 x, .int .i64 y, .bool d], .agg #[.int .i64 (j:Int), .int .i64 1, .bool b]] V fun e w'=>e= .returned (.bool false)∧Below V.heap.size V w'):=Lib.hid fun V=>by rw[←hd];exact uL x y d (j:Int) 1 b HFY.out ⟨by omega,by omega⟩ V
      clear hd hgf
      go_wp2_with fail
      go_region_held3 (fun V=>(V.cell? ⟨w1.heap.size,0,none⟩=some (.int .i64 (j:Int))∧V.cell? ⟨w1.heap.size,1,none⟩=some (.int .i64 1)∧V.cell? ⟨w1.heap.size,2,none⟩=some (.bool b))∧V.cell? ⟨g,q*3,none⟩=some (.int .i64 x)∧V.cell? ⟨g,q*3+1,none⟩=some (.int .i64 y)∧V.cell? ⟨g,q*3+2,none⟩=some (.bool d)) (first|with_reducible exact BX.out _ R1.out.drew|with_reducible exact BX.out _ R2.out)
       (first
        |(go_at_call 204;refine(MF.out _).mono ?_;rintro e w3 ⟨rfl,hb2⟩;have R2:=Lib.hid (R1.out.drew.trans (hb2.mono (by exact R1.out.drew.size)));clear hb2))
      have R3:Hid (w3.heap[w1.heap.size]? =some (.cells #[.int .i64 (j:Int), .int .i64 1, .bool b] 23 (0,0))):=Lib.hid (below_block R2.out (heap_alloc_new w1 _))
      have O3:=Lib.hid (gN ROW.out (T2.out.trans (R2.out.mono T2.out.size)))
      have B3:=Lib.hid (B2.out.trans (R2.out.mono B2.out.size))
      clear hm0
      obtain⟨-, -,e1, -⟩:=BX.out _ R2.out
      have hy:=HFY.out
      obtain⟨y1,y2,y3⟩:=hy
      have fz:w3.frozen? ⟨g,q*3+1,none⟩=false:=by
       obtain⟨cs,hcs⟩:=bF O3.out (g:=g) rfl
       exact frozen_of_row _ _ _ _ _ hcs
      have F5:Hid (Lp f w (w3.setCell ⟨g,q*3+1,none⟩ (.int .i64 (y+1))) (j+1) (K++[(x,y+1,d)]) (.slice (some ⟨g,0,none⟩) m c1)):=Lib.hid ⟨by
       have h5:=Zd (j:=q*3+1) O3.out (.int .i64 (y+1))
       rw[HQ.out,Tj K (x,y,d)]at h5
       have hl:(K++[(x,y+1,d)]).length=m:=by rw[←HML.out];simp
       rw[hl,HQ.out]
       exact h5,PA.out,below_grown B3.out (grownBy_setCell _ _ _ _) (Nat.le_refl _) (fun g' hg'=>by
       have:=tJ O3.out g rfl
       rw[←Option.some.inj hg'];exact this)⟩
      go_wp2_with fail
      go_roundw
      case rel=>exact⟨j+1,K++[(x,y+1,d)],by go_num,by omega,F5.out⟩
      case measure=>simp[intOf];omega
  ·obtain rfl:j=1024:=by omega
   have AN:Hid (∃er M,(L.length≤8∧er=0∧M=L∨8<L.length∧er=3∧M=[])∧pz f er M):=Lib.hid (by
    obtain⟨h1,h2⟩:=FO.out.part.ends F1.out
    by_cases h8:L.length≤8
    ·exact⟨0,L,Or.inl ⟨h8,rfl,rfl⟩,pz.few h1 h2 h8⟩
    ·exact⟨3,[],Or.inr ⟨by omega,rfl,rfl⟩,pz.many h1 h2 (by omega)⟩)
   have AT:=Lib.hid (FO.out.part.row FO.out.row)
   have hL:=FO.out.part.up.len
   have BB:=Lib.hid FO.out.below
   obtain⟨n,hn⟩:∃n,n=L.length:=⟨_,rfl⟩
   rw[←hn]at AT hL AN ⊢
   clear hlt hn
   obtain⟨er,M,⟨h8,rfl,rfl⟩|⟨h8,rfl,rfl⟩,ha⟩:=AN.out
   ·have AS:=Lib.hid ha
    clear ha AN
    go_wp2
    go_ret2
    exact⟨_,_,_,rfl,AS.out,AT.out,BB.out⟩
   ·have AS:=Lib.hid ha
    clear ha AN
    go_wp2
    go_ret2
    exact⟨_,_,_,rfl,AS.out,uW.nil _,BB.out⟩
end Go.Proofs.YtammlljefhakmaaGreatDoor
namespace Go.Proofs.YtammlljefhakmaaGreatDoor
open Go.RowKit Go.Maps
set_option maxRecDepth 100000
def C9(L:List Ar)(a:Ar)(p:Int):Bool:=if dS a p then a.2.2 else(fF L p==some true)
def uZ(L:List Ar)(a:Ar)(is:Bool)(p:Int):Option Bool:=if dS a p then(if is then some a.2.2 else none)else fF L p
theorem aaq(L:List Ar)(a:Ar)(is:Bool)(p:Int)(b:Bool)(h:uZ L a is p=some b):C9 L a p=b:=by
 unfold uZ at h
 unfold C9
 split at h
 ·rename_i hp
  rw[if_pos hp]
  cases is with
  |true=>simpa using h
  |false=>simp at h
 ·rename_i hp
  rw[if_neg hp,h]
  cases b<;>rfl
theorem Lr{L:List Ar}{a:Ar}(is:Bool)(up:mF L)(ha:FitD a.1 a.2.1)(p:Int)(hp:p<0∨1024≤p):uZ L a is p=none:=by
 unfold uZ
 rw[if_neg (by unfold FitD at ha;unfold dS;omega)]
 exact yH up hp
structure Xr(w:World)(ka ki kl:Nat)(a:Ar)(is:Bool)(v:Value):Prop where
 ba:w.heap[ka]? =some (.cells #[.int .i64 a.1, .int .i64 a.2.1, .bool a.2.2] 23 (0,0))
 bi:w.heap[ki]? =some (.cells #[.bool is] 4 (0,0))
 bl:w.heap[kl]? =some (.cells #[v] 81 (0,0))
theorem Xr.below{w w':World}{ka ki kl:Nat}{a:Ar}{is:Bool}{v:Value}(h:Xr w ka ki kl a is v)(hb:Below w.heap.size w w'):Xr w' ka ki kl a is v:=⟨below_block hb h.ba,below_block hb h.bi,below_block hb h.bl⟩
theorem Xt{w:World}{b:Nat}{x:Value}{t:TypeId}(h:w.heap[b]? =some (.cells #[x] t (0,0))):w.cell? ⟨b,0,none⟩=some x:=by rw[cell_of_row _ _ _ _ _ _ h];rfl
set_option maxHeartbeats 1000000 in
theorem adx(L:List Ar)(up:mF L)(x y:Int)(d is:Bool)(ha:FitD x y)(v:Value)(ka ki kl:Nat)(w:World)(h:iC w v L)(hB:Xr w ka ki kl (x,y,d) is v)(p:Int):
  Calls Tryz.prog 197 #[.int .i64 p, .pointer (some ⟨ka,0,none⟩), .pointer (some ⟨ki,0,none⟩), .pointer (some ⟨kl,0,none⟩)] w fun e w'=>e= .returned (.tuple #[.bool (C9 L (x,y,d) p), .bool (uZ L (x,y,d) is p).isSome])∧Below w.heap.size w w':=by
 obtain⟨c0,c1,c2⟩:=cells3 hB.ba
 simp only at c0 c1 c2
 have H:=Lib.hid h
 have BX:=Lib.hid hB
 have UP:=Lib.hid up
 have HA:=Lib.hid ha
 obtain⟨u,hu⟩:∃u,u=C9 L (x,y,d) p:=⟨_,rfl⟩
 obtain⟨f,hf⟩:∃f,f=(uZ L (x,y,d) is p).isSome:=⟨_,rfl⟩
 rw[←hu,←hf]
 have HU:=Lib.hid hu
 have HF:=Lib.hid hf
 clear h hB up ha hu hf
 by_cases hp:dS (x,y,d) p
 ·have hd:decide (dS (x,y,d) p)=true:=decide_eq_true hp
  obtain rfl:u=d:=by rw[HU.out];unfold C9;rw[if_pos hp]
  obtain rfl:f=is:=by rw[HF.out];unfold uZ;rw[if_pos hp];cases is<;>rfl
  have HH:Hid (∀V,Calls Tryz.prog 198 #[.agg #[.int .i64 x, .int .i64 y, .bool u], .int .i64 p] V fun e w'=>e= .returned (.bool true)∧Below V.heap.size V w'):=Lib.hid fun V=>by rw[←hd];exact IU x y u p HA.out V
  clear hd hp
  go_enter Tryz.func197,Tryz.ntmps197
  go_wp2_with fail
  refine(HH.out _).mono ?_
  rintro e w1 ⟨rfl,hb1⟩
  have X1:=Lib.hid (BX.out.below hb1)
  have B1:=Lib.hid hb1
  clear c0 c1 c2 hb1
  obtain⟨c0,c1,c2⟩:=cells3 X1.out.ba
  simp only at c0 c1 c2
  have c3:=Xt X1.out.bi
  go_wp2_with fail
  go_quiet (fail)
  go_wp2
  go_ret2
  exact⟨rfl,below_drewN B1.out _⟩
 ·have hd:decide (dS (x,y,d) p)=false:=decide_eq_false hp
  obtain rfl:u=(fF L p==some true):=by rw[HU.out];unfold C9;rw[if_neg hp]
  obtain rfl:f=(fF L p).isSome:=by rw[HF.out];unfold uZ;rw[if_neg hp]
  have HH:Hid (∀V,Calls Tryz.prog 198 #[.agg #[.int .i64 x, .int .i64 y, .bool d], .int .i64 p] V fun e w'=>e= .returned (.bool false)∧Below V.heap.size V w'):=Lib.hid fun V=>by rw[←hd];exact IU x y d p HA.out V
  clear hd hp HU HF
  go_enter Tryz.func197,Tryz.ntmps197
  go_wp2_with fail
  refine(HH.out _).mono ?_
  rintro e w1 ⟨rfl,hb1⟩
  have X1:=Lib.hid (BX.out.below hb1)
  have A1:=Lib.hid (H.out.below hb1)
  have B1:=Lib.hid hb1
  clear c0 c1 c2 hb1
  have c3:=Xt X1.out.bl
  go_wp2_with fail
  refine(CY L UP.out v p _ A1.out).mono ?_
  rintro e w2 ⟨rfl,hb2⟩
  have B2:=Lib.hid (B1.out.trans (hb2.mono B1.out.size))
  clear hb2
  go_wp2
  go_ret2
  exact⟨rfl,B2.out⟩
set_option maxHeartbeats 1000000 in
theorem Qm(L:List Ar)(up:mF L)(x y:Int)(d is:Bool)(ha:FitD x y)(v:Value)(w:World)(h:iC w v L):
  Calls Tryz.prog 140 #[v, .agg #[.int .i64 x, .int .i64 y, .bool d], .bool is] w fun e w'=>∃v er M,e= .returned (.tuple #[v, .int .i64 er])∧pz (uZ L (x,y,d) is) er M∧uW w' v M∧Below w.heap.size w w':=by
 obtain⟨sa,sc,hv⟩:=h.form
 obtain⟨sn,hn⟩:∃sn,sn=L.length:=⟨_,rfl⟩
 rw[←hn]at hv
 subst hv
 clear hn
 obtain⟨w3,hw3⟩:∃w3,w3=((w.alloc (.cells #[.slice sa sn sc] 81)).alloc (.cells #[.int .i64 x, .int .i64 y, .bool d] 23)).alloc (.cells #[.bool is] 4):=⟨_,rfl⟩
 have hb1:Below w.heap.size w (w.alloc (.cells #[.slice sa sn sc] 81)):=(Below.refl _ _).alloc (Nat.le_refl _) _
 have hb2:=(Below.refl (w.alloc (.cells #[.slice sa sn sc] 81)).heap.size (w.alloc (.cells #[.slice sa sn sc] 81))).alloc (Nat.le_refl _) (.cells #[.int .i64 x, .int .i64 y, .bool d] 23)
 have hb3:=(Below.refl ((w.alloc (.cells #[.slice sa sn sc] 81)).alloc (.cells #[.int .i64 x, .int .i64 y, .bool d] 23)).heap.size ((w.alloc (.cells #[.slice sa sn sc] 81)).alloc (.cells #[.int .i64 x, .int .i64 y, .bool d] 23))).alloc (Nat.le_refl _) (.cells #[.bool is] 4)
 have hB3:Below w.heap.size w w3:=by rw[hw3];exact hb1.trans ((hb2.trans (hb3.mono hb2.size)).mono hb1.size)
 have hX:Xr w3 (w.heap.size+1) (w.heap.size+1+1) w.heap.size (x,y,d) is (.slice sa sn sc):=by
  rw[hw3]
  refine⟨?_,?_,?_⟩
  ·have e1:=heap_alloc_new (w.alloc (.cells #[.slice sa sn sc] 81)) (.cells #[.int .i64 x, .int .i64 y, .bool d] 23)
   have e2:=below_block hb3 e1
   simpa using e2
  ·have e1:=heap_alloc_new ((w.alloc (.cells #[.slice sa sn sc] 81)).alloc (.cells #[.int .i64 x, .int .i64 y, .bool d] 23)) (.cells #[.bool is] 4)
   simpa using e1
  ·exact below_block hb3 (below_block hb2 (heap_alloc_new w _))
 have FORM:=Lib.hid (aap (C9 L (x,y,d)) (uZ L (x,y,d) is) (w.heap.size+1) (w.heap.size+1+1) w.heap.size w3 (fun p hp=>Lr is up ha p (Or.inl hp)) (fun p hp=>Lr is up ha p (Or.inr hp)) (aaq L (x,y,d) is) (fun V p _ _ hb=>adx L up x y d is ha (.slice sa sn sc) _ _ _ V ((h.below hB3).below hb) (hX.below hb) p))
 have B3:=Lib.hid hB3
 have HW:=Lib.hid hw3
 clear hb1 hb2 hb3 hB3 hX hw3 h up ha
 go_enter Tryz.func140,Tryz.ntmps140
 go_wp2_with fail
 rw[←HW.out]
 refine FORM.out.mono ?_
 rintro e w4 ⟨v',er,M,rfl,ha,hat,hb⟩
 have HA:=Lib.hid ha
 have AT:=Lib.hid hat
 have BB:=Lib.hid (B3.out.trans (hb.mono B3.out.size))
 clear ha hat hb
 go_wp2
 go_ret2
 exact⟨_,_,_,rfl,HA.out,AT.out,BB.out⟩
end Go.Proofs.YtammlljefhakmaaGreatDoor
namespace Go.Proofs.YtammlljefhakmaaGreatDoor
open Go.RowKit Go.Maps
set_option maxRecDepth 100000
def afm(L:List Ar)(p:Int)(o:Option Bool):Prop:=qQ L∧o=fF L p∨¬qQ L∧o=none
def lY(L:List Ar)(f m:Int)(c:Bool):Prop:=(c=true↔qQ L∧FitD f m∧Ep L f m)
theorem Ob(L:List Ar)(f m:Int):∃c,lY L f m c:=by
 by_cases h:qQ L∧FitD f m∧Ep L f m
 ·exact⟨true,by unfold lY;simp[h]⟩
 ·exact⟨false,by unfold lY;simp only[Bool.false_eq_true,false_iff];exact h⟩
theorem lY.uniq{L:List Ar}{f m:Int}{o o':Bool}(h:lY L f m o)(k:lY L f m o'):o=o':=by
 unfold lY at h k
 cases o<;>cases o'<;>simp_all
theorem aar{L:List Ar}{f m:Int}(hf:FitD f m):qj (fun p=>(fF L p).isSome) f m.toNat=m↔Ep L f m:=by
 unfold FitD at hf
 have e:(m.toNat:Int)=m:=by omega
 have:=Xl (P:=fun p=>(fF L p).isSome) (f:=f) (n:=m.toNat)
 rw[e]at this
 rw[this]
 unfold Ep
 constructor
 ·intro h p h1 h2 hn
  have:=h p h1 h2
  simp[hn]at this
 ·intro h p h1 h2
  have:=h p h1 h2
  cases ha:fF L p with
  |none=>exact absurd ha this
  |some b=>rfl
theorem Tk{L:List Ar}{a:Ar}(ha:FitD a.1 a.2.1):qj (fun p=>(fF L p).isSome) a.1 a.2.1.toNat=0↔∀p,dS a p→fF L p=none:=by
 unfold FitD at ha
 have e:(a.2.1.toNat:Int)=a.2.1:=by omega
 have:=Tf (P:=fun p=>(fF L p).isSome) (f:=a.1) (n:=a.2.1.toNat)
 rw[e]at this
 rw[this]
 constructor
 ·intro h p hp
  have:=h p hp.1 hp.2
  simpa using this
 ·intro h p h1 h2
  rw[h p ⟨h1,h2⟩]
  rfl
theorem Ls(L:List Ar)(v:Value)(p:Int)(w:World)(h:iC w v L){o:Option Bool}(ho:afm L p o):Calls Tryz.prog 181 #[v, .int .i64 p] w fun e w'=>e=abE o∧Below w.heap.size w w':=by
 obtain⟨k,hk⟩:=IV L
 have CK:=Lib.hid (uM L v w h hk)
 have H:=Lib.hid h
 clear h
 rcases hk with⟨hg,rfl⟩|⟨hg,rfl⟩
 ·have FI:=Lib.hid (fun V (hV:iC V v L)=>CY L hg.up v p V hV)
  obtain rfl:o=fF L p:=by rcases ho with⟨_,e⟩|⟨n,_⟩;exact e;exact absurd hg n
  clear hg ho
  go_enter Tryz.func181,Tryz.ntmps181
  go_wp2_with fail
  refine CK.out.mono ?_
  rintro e w1 ⟨rfl,hb1⟩
  have B1:=Lib.hid hb1
  clear hb1
  go_wp2_with fail
  refine(FI.out _ (H.out.below B1.out)).mono ?_
  rintro e w2 ⟨rfl,hb2⟩
  have B2:=Lib.hid (B1.out.trans (hb2.mono B1.out.size))
  clear hb2
  go_wp2
  go_ret2
  exact⟨rfl,B2.out⟩
 ·obtain rfl:o=none:=by rcases ho with⟨n,_⟩|⟨_,e⟩;exact absurd n hg;exact e
  clear hg ho
  go_enter Tryz.func181,Tryz.ntmps181
  go_wp2_with fail
  refine CK.out.mono ?_
  rintro e w1 ⟨rfl,hb1⟩
  have B1:=Lib.hid hb1
  clear hb1
  go_wp2
  go_ret2
  exact⟨rfl,B1.out⟩
theorem Oc(L:List Ar)(v:Value)(f m:Int)(hf:I64 f)(hm:I64 m)(w:World)(h:iC w v L){c:Bool}(hc:lY L f m c):Calls Tryz.prog 195 #[v, .int .i64 f, .int .i64 m] w fun e w'=>e= .returned (.bool c)∧Below w.heap.size w w':=by
 obtain⟨k,hk⟩:=IV L
 have CK:=Lib.hid (uM L v w h hk)
 have H:=Lib.hid h
 have HC:=Lib.hid hc
 have AP:=Lib.hid (fun V=>mh f m hf hm V)
 clear h hc
 rcases hk with⟨hg,rfl⟩|⟨hg,rfl⟩
 ·by_cases hfm:FitD f m
  ·have FI:=Lib.hid (fun V (hV:iC V v L)=>Lh L hg.up v f m hfm V hV)
   obtain⟨n,hn⟩:∃n,n=qj (fun p=>(fF L p).isSome) f m.toNat:=⟨_,rfl⟩
   obtain⟨d,hd⟩:∃d,d=(n==m):=⟨_,rfl⟩
   obtain rfl:d=c:=lY.uniq (L:=L) (f:=f) (m:=m) (by
    unfold lY
    rw[hd,hn,beq_iff_eq,aar hfm]
    exact⟨fun e=>⟨hg,hfm,e⟩,fun e=>e.2.2⟩) HC.out
   rw[←hn]at FI
   rw[show decide (FitD f m)=true from decide_eq_true hfm]at AP
   have HD:=hd.symm
   clear hn hd hfm hg HC
   go_enter Tryz.func195,Tryz.ntmps195
   go_wp2_with(first
    |(go_at_call 145;refine CK.out.mono ?_;rintro e w1 ⟨rfl,hb1⟩;have B1:=Lib.hid hb1;clear hb1)
    |(go_at_call 146;refine(AP.out _).mono ?_;rintro e w2 ⟨rfl,rfl⟩)
    |(go_at_call 147;refine(FI.out _ (H.out.below B1.out)).mono ?_;rintro e w3 ⟨rfl,hb3⟩;have B3:=Lib.hid (B1.out.trans (hb3.mono B1.out.size));clear hb3))
   go_ret
   exact⟨rfl,B3.out⟩
  ·obtain rfl:c=false:=by
    have:=HC.out
    cases c with
    |false=>rfl
    |true=>exact absurd (this.1 rfl).2.1 hfm
   rw[show decide (FitD f m)=false from decide_eq_false hfm]at AP
   clear hfm hg HC
   go_enter Tryz.func195,Tryz.ntmps195
   go_wp2_with(first
    |(go_at_call 145;refine CK.out.mono ?_;rintro e w1 ⟨rfl,hb1⟩;have B1:=Lib.hid hb1;clear hb1)
    |(go_at_call 146;refine(AP.out _).mono ?_;rintro e w2 ⟨rfl,rfl⟩))
   go_ret
   exact⟨rfl,B1.out⟩
 ·obtain rfl:c=false:=by
   have:=HC.out
   cases c with
   |false=>rfl
   |true=>exact absurd (this.1 rfl).1 hg
  clear hg HC
  go_enter Tryz.func195,Tryz.ntmps195
  go_wp2_with(first
   |(go_at_call 145;refine CK.out.mono ?_;rintro e w1 ⟨rfl,hb1⟩;have B1:=Lib.hid hb1;clear hb1))
  go_ret
  exact⟨rfl,B1.out⟩
def afn(L:List Ar)(f m:Int)(k:Int):Prop:=¬(qQ L∧FitD f m)∧k=2∨(qQ L∧FitD f m)∧(¬Ep L f m∧k=4∨Ep L f m∧k=0)
theorem aas(L:List Ar)(v:Value)(f m:Int)(hf:I64 f)(hm:I64 m)(w:World)(h:iC w v L){k:Int}(hk:afn L f m k):Calls Tryz.prog 139 #[v, .int .i64 f, .int .i64 m] w fun e w'=>e= .returned (.int .i64 k)∧Below w.heap.size w w':=by
 obtain⟨q,hq⟩:=IV L
 have CK:=Lib.hid (uM L v w h hq)
 have H:=Lib.hid h
 have HK:=Lib.hid hk
 have AP:=Lib.hid (fun V=>mh f m hf hm V)
 clear h hk
 rcases hq with⟨hg,rfl⟩|⟨hg,rfl⟩
 ·by_cases hfm:FitD f m
  ·obtain⟨c,hc⟩:=Ob L f m
   have CO:=Lib.hid (fun V (hV:iC V v L)=>Oc L v f m hf hm V hV hc)
   rw[show decide (FitD f m)=true from decide_eq_true hfm]at AP
   cases c with
   | true=>
    obtain rfl:k=0:=by
     have hcv:=(hc.1 rfl).2.2
     rcases HK.out with⟨n,_⟩|⟨_,⟨n,_⟩|⟨_,e⟩⟩
     ·exact absurd ⟨hg,hfm⟩ n
     ·exact absurd hcv n
     ·exact e
    clear hc hfm hg HK
    go_enter Tryz.func139,Tryz.ntmps139
    go_wp2_with(first
     |(go_at_call 145;refine CK.out.mono ?_;rintro e w1 ⟨rfl,hb1⟩;have B1:=Lib.hid hb1;clear hb1)
     |(go_at_call 146;refine(AP.out _).mono ?_;rintro e w2 ⟨rfl,rfl⟩)
     |(go_at_call 195;refine(CO.out _ (H.out.below B1.out)).mono ?_;rintro e w3 ⟨rfl,hb3⟩;have B3:=Lib.hid (B1.out.trans (hb3.mono B1.out.size));clear hb3))
    go_ret
    exact⟨rfl,B3.out⟩
   | false=>
    obtain rfl:k=4:=by
     have hcv:¬Ep L f m:=fun h=>by have:=hc.2 ⟨hg,hfm,h⟩;cases this
     rcases HK.out with⟨n,_⟩|⟨_,⟨_,e⟩|⟨n,_⟩⟩
     ·exact absurd ⟨hg,hfm⟩ n
     ·exact e
     ·exact absurd n hcv
    clear hc hfm hg HK
    go_enter Tryz.func139,Tryz.ntmps139
    go_wp2_with(first
     |(go_at_call 145;refine CK.out.mono ?_;rintro e w1 ⟨rfl,hb1⟩;have B1:=Lib.hid hb1;clear hb1)
     |(go_at_call 146;refine(AP.out _).mono ?_;rintro e w2 ⟨rfl,rfl⟩)
     |(go_at_call 195;refine(CO.out _ (H.out.below B1.out)).mono ?_;rintro e w3 ⟨rfl,hb3⟩;have B3:=Lib.hid (B1.out.trans (hb3.mono B1.out.size));clear hb3))
    go_ret
    exact⟨rfl,B3.out⟩
  ·obtain rfl:k=2:=by
    rcases HK.out with⟨_,e⟩|⟨n,_⟩
    ·exact e
    ·exact absurd n.2 hfm
   rw[show decide (FitD f m)=false from decide_eq_false hfm]at AP
   clear hfm hg HK
   go_enter Tryz.func139,Tryz.ntmps139
   go_wp2_with(first
    |(go_at_call 145;refine CK.out.mono ?_;rintro e w1 ⟨rfl,hb1⟩;have B1:=Lib.hid hb1;clear hb1)
    |(go_at_call 146;refine(AP.out _).mono ?_;rintro e w2 ⟨rfl,rfl⟩))
   go_ret
   exact⟨rfl,B1.out⟩
 ·obtain rfl:k=2:=by
   rcases HK.out with⟨_,e⟩|⟨n,_⟩
   ·exact e
   ·exact absurd n.1 hg
  clear hg HK
  go_enter Tryz.func139,Tryz.ntmps139
  go_wp2_with(first
   |(go_at_call 145;refine CK.out.mono ?_;rintro e w1 ⟨rfl,hb1⟩;have B1:=Lib.hid hb1;clear hb1))
  go_ret
  exact⟨rfl,B1.out⟩
end Go.Proofs.YtammlljefhakmaaGreatDoor
namespace Go.Proofs.YtammlljefhakmaaGreatDoor
open Go.RowKit Go.Maps
set_option maxRecDepth 100000
def Lu(w:World)(D:Int→List Ar→Prop)(e:Ending)(w':World):Prop:=∃v er M,e= .returned (.tuple #[v, .int .i64 er])∧D er M∧uW w' v M∧Below w.heap.size w w'
theorem aat(L:List Ar)(v:Value)(x y:Int)(d:Bool)(hx:I64 x)(hy:I64 y)(w:World)(h:iC w v L):Calls Tryz.prog 86 #[v, .agg #[.int .i64 x, .int .i64 y, .bool d]] w (Lu w (Tg L (x,y,d))):=by
 have hb0:Below w.heap.size w (w.alloc (.cells #[.int .i64 x, .int .i64 y, .bool d] 23)):=(Below.refl _ _).alloc (Nat.le_refl _) _
 have r0:=heap_alloc_new w (.cells #[.int .i64 x, .int .i64 y, .bool d] 23)
 obtain⟨w0,hw0⟩:∃w0,w0=w.alloc (.cells #[.int .i64 x, .int .i64 y, .bool d] 23):=⟨_,rfl⟩
 rw[←hw0]at hb0 r0
 obtain⟨q,hq⟩:=IV L
 have CK:=Lib.hid (uM L v w0 (h.below hb0) hq)
 have H:=Lib.hid (h.below hb0)
 have HW:=Lib.hid hw0
 have B0:=Lib.hid hb0
 have R0:=Lib.hid r0
 have AP:=Lib.hid (fun V=>mh x y hx hy V)
 obtain⟨f0,f1,f2⟩:=cells3 (show(w.alloc (.cells #[.int .i64 x, .int .i64 y, .bool d] 23)).heap[w.heap.size]? = _ from heap_alloc_new w _)
 rw[←hw0]at f0 f1 f2
 clear h hb0 r0 hw0 hx hy
 rcases hq with⟨hg,rfl⟩|⟨hg,rfl⟩
 ·by_cases hfm:FitD x y
  ·have FI:=Lib.hid (fun V (hV:iC V v L)=>Lh L hg.up v x y hfm V hV)
   have TH:=Lib.hid (Tk (L:=L) (a:=(x,y,d)) hfm)
   have GE:=(AJ (fun p=>(fF L p).isSome) x y.toNat).1
   simp only at TH
   have PU:=Lib.hid (fun V (hV:iC V v L)=>Qm L hg.up x y d true hfm v V hV)
   rw[show decide (FitD x y)=true from decide_eq_true hfm]at AP
   generalize qj (fun p=>(fF L p).isSome) x y.toNat=n at FI TH GE
   have UG:Hid (qQ L∧FitD x y):=Lib.hid ⟨hg,hfm⟩
   clear hg hfm
   by_cases hn:n=0
   ·subst hn
    have NT:=Lib.hid (TH.out.1 rfl)
    clear TH
    go_enter Tryz.func86,Tryz.ntmps86
    go_wp2_with fail
    rw[←HW.out]
    refine CK.out.mono ?_
    rintro e w1 ⟨rfl,hb1⟩
    have B1:=Lib.hid hb1
    obtain⟨c0,c1,c2⟩:=cells3 (below_block hb1 R0.out)
    clear hb1 f0 f1 f2
    go_wp2_with(first
     |(go_at_call 146;refine(AP.out _).mono ?_;rintro e w2 ⟨rfl,rfl⟩)
     |(go_at_call 147;refine(FI.out _ (H.out.below B1.out)).mono ?_;rintro e w3 ⟨rfl,hb3⟩;have B3:=Lib.hid (B1.out.trans (hb3.mono B1.out.size));obtain⟨c0,c1,c2⟩:=cells3 (below_block B3.out R0.out);clear hb3)
     |(go_at_call 140;refine(PU.out _ (H.out.below B3.out)).mono ?_;rintro e w4 ⟨v4,er,M,rfl,ha,hat,hb4⟩;have HA:=Lib.hid ha;have AT:=Lib.hid hat;have B4:=Lib.hid (B3.out.trans (hb4.mono B3.out.size));clear ha hat hb4))
    go_ret2
    exact⟨_,_,_,rfl,Or.inr ⟨UG.out,Or.inr ⟨NT.out,HA.out⟩⟩,AT.out,B0.out.trans (B4.out.mono B0.out.size)⟩
   ·have NT:Hid (¬∀p,dS (x,y,d) p→fF L p=none):=Lib.hid fun h=>hn (TH.out.2 h)
    have hpos:decide (0<n)=true:=decide_eq_true (by omega)
    clear TH hn GE
    go_enter Tryz.func86,Tryz.ntmps86
    go_wp2_with fail
    rw[←HW.out]
    refine CK.out.mono ?_
    rintro e w1 ⟨rfl,hb1⟩
    have B1:=Lib.hid hb1
    obtain⟨c0,c1,c2⟩:=cells3 (below_block hb1 R0.out)
    clear hb1 f0 f1 f2
    go_wp2_with(first
     |(go_at_call 146;refine(AP.out _).mono ?_;rintro e w2 ⟨rfl,rfl⟩)
     |(go_at_call 147;refine(FI.out _ (H.out.below B1.out)).mono ?_;rintro e w3 ⟨rfl,hb3⟩;have B3:=Lib.hid (B1.out.trans (hb3.mono B1.out.size));clear hb3))
    go_ret2
    exact⟨_,_,_,rfl,Or.inr ⟨UG.out,Or.inl ⟨NT.out,rfl,rfl⟩⟩,uW.nil _,B0.out.trans (B3.out.mono B0.out.size)⟩
  ·have UG:Hid (¬(qQ L∧FitD x y)):=Lib.hid fun h=>hfm h.2
   rw[show decide (FitD x y)=false from decide_eq_false hfm]at AP
   clear hg hfm
   go_enter Tryz.func86,Tryz.ntmps86
   go_wp2_with fail
   rw[←HW.out]
   refine CK.out.mono ?_
   rintro e w1 ⟨rfl,hb1⟩
   have B1:=Lib.hid hb1
   obtain⟨c0,c1,c2⟩:=cells3 (below_block hb1 R0.out)
   clear hb1 f0 f1 f2
   go_wp2_with(first
    |(go_at_call 146;refine(AP.out _).mono ?_;rintro e w2 ⟨rfl,rfl⟩))
   go_ret2
   exact⟨_,_,_,rfl,Or.inl ⟨UG.out,rfl,rfl⟩,uW.nil _,B0.out.trans (B1.out.mono B0.out.size)⟩
 ·have UG:Hid (¬(qQ L∧FitD x y)):=Lib.hid fun h=>hg h.1
  clear hg
  go_enter Tryz.func86,Tryz.ntmps86
  go_wp2_with fail
  rw[←HW.out]
  refine CK.out.mono ?_
  rintro e w1 ⟨rfl,hb1⟩
  have B1:=Lib.hid hb1
  clear hb1 f0 f1 f2
  go_wp2
  go_ret2
  exact⟨_,_,_,rfl,Or.inl ⟨UG.out,rfl,rfl⟩,uW.nil _,B0.out.trans (B1.out.mono B0.out.size)⟩
theorem ady(L:List Ar)(f m:Int):∃k,afn L f m k:=by
 by_cases h:qQ L∧FitD f m
 ·by_cases hc:Ep L f m
  ·exact⟨0,Or.inr ⟨h,Or.inr ⟨hc,rfl⟩⟩⟩
  ·exact⟨4,Or.inr ⟨h,Or.inl ⟨hc,rfl⟩⟩⟩
 ·exact⟨2,Or.inl ⟨h,rfl⟩⟩
theorem aau(L:List Ar)(v:Value)(f m:Int)(hf:I64 f)(hm:I64 m)(w:World)(h:iC w v L):Calls Tryz.prog 80 #[v, .int .i64 f, .int .i64 m] w (Lu w (Cz L f m)):=by
 obtain⟨k,hk⟩:=ady L f m
 have AS:=Lib.hid (aas L v f m hf hm w h hk)
 have H:=Lib.hid h
 clear h hf hm
 rcases hk with⟨hg,rfl⟩|⟨hg,⟨hc,rfl⟩|⟨hc,rfl⟩⟩
 ·have UG:=Lib.hid hg
  clear hg
  go_enter Tryz.func80,Tryz.ntmps80
  go_wp2_with fail
  refine AS.out.mono ?_
  rintro e w1 ⟨rfl,hb1⟩
  have B1:=Lib.hid hb1
  clear hb1
  go_wp2
  go_ret2
  exact⟨_,_,_,rfl,Or.inl ⟨UG.out,rfl,rfl⟩,uW.nil _,B1.out⟩
 ·have UG:=Lib.hid hg
  have HC:=Lib.hid hc
  clear hg hc
  go_enter Tryz.func80,Tryz.ntmps80
  go_wp2_with fail
  refine AS.out.mono ?_
  rintro e w1 ⟨rfl,hb1⟩
  have B1:=Lib.hid hb1
  clear hb1
  go_wp2
  go_ret2
  exact⟨_,_,_,rfl,Or.inr ⟨UG.out,Or.inl ⟨HC.out,rfl,rfl⟩⟩,uW.nil _,B1.out⟩
 ·have PU:=Lib.hid (fun V (hV:iC V v L)=>Qm L hg.1.up f m false false hg.2 v V hV)
  have UG:=Lib.hid hg
  have HC:=Lib.hid hc
  clear hg hc
  go_enter Tryz.func80,Tryz.ntmps80
  go_wp2_with fail
  refine AS.out.mono ?_
  rintro e w1 ⟨rfl,hb1⟩
  have B1:=Lib.hid hb1
  clear hb1
  have hz:=Xq
  go_wp2_with(first
   |(go_at_call 140;refine(PU.out _ (H.out.below B1.out)).mono ?_;rintro e w4 ⟨v4,er,M,rfl,ha,hat,hb4⟩;have HA:=Lib.hid ha;have AT:=Lib.hid hat;have B4:=Lib.hid (B1.out.trans (hb4.mono B1.out.size));clear ha hat hb4))
  go_ret2
  exact⟨_,_,_,rfl,Or.inr ⟨UG.out,Or.inr ⟨HC.out,HA.out⟩⟩,AT.out,B4.out⟩
end Go.Proofs.YtammlljefhakmaaGreatDoor
