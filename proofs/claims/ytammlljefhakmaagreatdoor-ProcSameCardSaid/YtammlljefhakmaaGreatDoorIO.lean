/- Helps of the proof. No condition. -/
import Derived.Test.YtammlljefhakmaaGreatDoorIN
import Derived.Test.YtammlljefhakmaaGreatDoorQ9
namespace Go.Proofs.YtammlljefhakmaaGreatDoor
open Go.RowKit Go.Maps
set_option maxRecDepth 100000
section
section
variable {W0 w:World} {J:mQ} {q c:Nat} {D:Int→Option Sp} {T:List Nd} {Qu:List Int} {Lb:List Nd} {G:Int→Option Pc} {rg:Int→Nat→Int}
end
end
section
theorem lK.kid{n:Int}{T:List Nd}{Qu:List Int}{Lb:List Nd}{G:Int→Option Pc}(h:lK n T Qu Lb G){p a:Int}(h1:fu T p=1)(ha:lX n T p=0):
  aH (aB 1 T) (eZ n T p)=some (aB 1 T,p,1,0)∧eG (eZ n T p) (aB 1 T)=0∧(gu n (eZ n T p) (aB 1 T) a).length=T.length+1:=by
 obtain⟨s0,s1,s2,s3,s4⟩:=nV h.good ha
 obtain⟨ch,hch⟩:∃ch,ch=aB 1 T:=⟨_,rfl⟩
 rw[←hch]at s0 s1 s2 s3 s4 ⊢
 have hat:aH ch (eZ n T p)=some (ch,p,1,0):=by rw[s3,gG s2,if_pos rfl]
 have hne1:ch≠1:=fun e=>by
  obtain⟨x,hx,_⟩:=h.wh.first
  have:=aj hx
  exact s2 x this.1 (by rw[this.2,e])
 have hp:p≠ch:=fun e=>by rw[e,s0]at h1;cases h1
 have he:eG (eZ n T p) ch=0:=by unfold eG;rw[hat];simp[hne1]
 have hup:∀y∈T,y.2.1≠ch:=fun y hy e=>by
  obtain⟨f,_,hf⟩:=h.wh.tree
  by_cases h1:y.1=1
  ·obtain⟨x,hx,hx0,_⟩:=h.wh.first
   have:=dW h.good.up hy
   rw[h1,hx]at this
   cases this
   omega
  ·obtain⟨z,hz,hz1,_⟩:=hf y hy h1
   exact s2 z hz (by rw[hz1,e])
 have hno:∀j,ko j (iD (eZ n T p) ch a)=none:=fun j=>by
  cases hs:ko j (iD (eZ n T p) ch a)with
  |none=>rfl
  | some c=>
   obtain⟨⟨pj,WC,ag9⟩,hcm,hc1,hc3⟩:=kX hs
   have hsj:fu (iD (eZ n T p) ch a) j=2:=by rw[lM WC];exact ag9
   rw[vC hat,s4]at hsj
   have hj:j≠ch:=fun e=>by rw[if_pos e]at hsj;cases hsj
   rw[if_neg hj,if_neg hj]at hsj
   exfalso
   unfold iD at hcm
   obtain⟨y1,hy1,rfl⟩:=List.mem_map.1 hcm
   obtain⟨y,hy,rfl⟩:=List.mem_map.1 hy1
   rw[s3]at hy
   rcases dS.1 hy with rfl|hy
   ·have e1:(eT ch 1 (kW ch a (ch,p,1,0))).2.1=p:=by
     unfold kW eT
     simp[hp]
    rw[e1]at hc1
    rw[←hc1,h1]at hsj
    cases hsj
   ·have hyc:y.1≠ch:=s2 y hy
    have e1:eT ch 1 (kW ch a y)=y:=by
     have:kW ch a y=y:=by unfold kW;rw[if_neg hyc]
     rw[this]
     unfold eT
     rw[if_neg (hup y hy)]
    rw[e1]at hc1 hc3
    obtain⟨x,hx,hx2,hx8,_⟩:=h.good.st (i:=j) (by rw[hsj];decide)
    have hz:=(h.wh.wait x (aj hx).1 (by rw[←hx2,hsj])).2 (by have:=h.good.most.2;have:=(aj hx).2;omega)
    exact mR.1 hz y hy ⟨by rw[hc1,(aj hx).2],hc3⟩
 have hsr:∀k:Nat,lW k (iD (eZ n T p) ch a)=iD (eZ n T p) ch a:=fun k=>by
  induction k with
  |zero=>rfl
  |succ k ih=>rw[lW,ih];unfold ku;rw[hno]
 refine⟨hat,he,?_⟩
 unfold gu qo
 rw[if_pos he,hsr]
 unfold iD
 rw[List.length_map,List.length_map,s3,rU]
theorem Na{L:List Nd}{id up n m:Int}(he:gT L id up n=0):aM (aD (bX L id up n) id m) up=aM L up-n:=by
 obtain⟨_,⟨nu,hnu⟩,hno,_⟩:=jH.1 he
 have hup:up≠id:=fun e=>by rw[e,hno]at hnu;cases hnu
 have hol:bX L id up n=jw (id,up,n,0) L:=by unfold bX;rw[if_pos he]
 have VD:∀X:List Nd,aM (X.map (gU id m)) up=aM X up:=fun X=>by
  unfold aM
  rw[bD (iN _ _)]
  cases e:aH up X with
  |none=>rfl
  |some x=>
   have:=(aj e).2
   rw[Option.map_some]
   simp only[Ac,dV]
   rw[xR,iN]
   unfold gU
   rw[if_neg (by omega)]
 have e1:aM (aD (bX L id up n) id m) up=aM (bX L id up n) up:=by
  unfold aD
  split
  ·exact VD _
  ·rfl
 rw[e1,hol,jv (by rw[gG (dH.1 hno),if_neg hup];exact hnu),jv hnu,qj,if_pos rfl]
 simp only
 omega
section
variable {W0 w:World} {J:mQ} {q c:Nat} {D:Int→Option Sp} {T:List Nd} {Qu:List Int} {Lb:List Nd} {G:Int→Option Pc} {rg:Int→Nat→Int}
theorem dG.noD(h:dG W0 w J q c D T Qu Lb G rg){i:Int}(hG:G i=none):D i=none:=by
 obtain⟨fm,kw,Q,V,h1,_⟩:=h.MX
 obtain⟨W,Pb,_,h2⟩:=h1.bl
 exact h2.none_ i hG
theorem dG.same{w':World}{c':Nat}{D':Int→Option Sp}{T':List Nd}{wQ:List Int}{dn:List Nd}{G':Int→Option Pc}{iZ:Int→Nat→Int}(h:dG W0 w J q c D T Qu Lb G rg)(k:dG W0 w' J q c' D' T' wQ dn G' iZ)(hs:wP D D'):c'=c:=by
 obtain⟨_,_,_,_,h1,_⟩:=h.MX
 obtain⟨_,_,_,_,h2,_⟩:=k.MX
 exact h1.j.afQ h2.j hs
theorem wP.kid{D D1 D2:Int→Option Sp}{ch:Int}(h0:D ch=none)(h1:∀l,l≠ch→(D1 l).isSome=(D l).isSome∧∀(U:Nat→Nat→Int) r y,r<1024→y<32→kJ D1 U l r y=kJ D U l r y)(h2:abO D1 D2 ch):wP D D2:=
 ⟨fun i=>by
  by_cases e:i=ch
  ·rw[e,h2.1,h0]
  ·rw[(h2.2 i e).1,(h1 i e).1],fun U i r y hr hy=>by
  by_cases e:i=ch
  ·rw[e,Cj h2.1,Cj h0]
  ·rw[(h2.2 i e).2 U r y hr hy,(h1 i e).2 U r y hr hy]⟩
end
end
section
structure kN(W w:World)(J:mQ)(q c:Nat)(Lb:List Nd)(tl:Nat):Prop where
 ex:∃D T Qu G rg,eD W w J q c D T Qu Lb G rg∧T.length=tl
structure vE(W w:World)(J:mQ)(q c:Nat)(Lb:List Nd)(tl:Nat)(p k ch:Int):Prop where
 ex:∃w0 D T Qu G rg,eD W w0 J q c D T Qu Lb G rg∧T.length=tl∧ch=aB 1 T∧fu T p=1∧lX J.n T p=0∧gT Lb ch p k=0∧(1≤k∧k≤256)∧∃c' D' wQ dn G' iZ m,eD W w J q c' D' (eZ J.n T p) wQ dn G' iZ∧dn=aD (bX Lb ch p k) ch m∧∀l,l≠ch→(D' l).isSome=(D l).isSome∧∀(U:Nat→Nat→Int) r y,r<1024→y<32→kJ D' U l r y=kJ D U l r y
section
variable {W w:World} {J:mQ} {q c:Nat} {Lb:List Nd} {tl:Nat} {p k ch:Int}
theorem kN.step{w':World}(h:kN W w J q c Lb tl)(hb:Below w.heap.size w w'):kN W w' J q c Lb tl:=by
 obtain⟨D,T,Qu,G,rg,hp,ht⟩:=h.ex
 exact⟨D,T,Qu,G,rg,hp.step hb,ht⟩
theorem vE.step{w':World}(h:vE W w J q c Lb tl p k ch)(hb:Below w.heap.size w w'):vE W w' J q c Lb tl p k ch:=by
 obtain⟨w0,D,T,Qu,G,rg,h1,h2,h3,h4,h5,h6,h7,c',D',wQ,dn,G',iZ,m,h8,h9⟩:=h.ex
 exact⟨w0,D,T,Qu,G,rg,h1,h2,h3,h4,h5,h6,h7,c',D',wQ,dn,G',iZ,m,h8.step hb,h9⟩
theorem kN.below(h:kN W w J q c Lb tl):Below W.heap.size W w:=by
 obtain⟨D,T,Qu,G,rg,hp,ht⟩:=h.ex
 exact hp.below
theorem kN.left(h:kN W w J q c Lb tl)(p:Int){d:Int}(hd:aM Lb p=d):Calls Tryz.prog 22 #[.pointer (some ⟨J.ps,0,none⟩), .int .i64 p] w fun e w'=>e= .returned (.int .i64 d)∧Below w.heap.size w w':=by
 obtain⟨D,T,Qu,G,rg,hp,ht⟩:=h.ex
 exact hp.left p hd
theorem kN.free(h:kN W w J q c Lb tl):Calls Tryz.prog 35 #[.pointer (some ⟨J.I.X.pb,0,none⟩), .int .i64 0] w fun e w'=>e= .returned (.int .i64 (c:Int))∧Below w.heap.size w w':=by
 obtain⟨D,T,Qu,G,rg,hp,ht⟩:=h.ex
 exact hp.aer
theorem kN.all(h:kN W w J q c Lb tl):Calls Tryz.prog 20 #[.pointer (some ⟨J.ps,0,none⟩)] w fun e w'=>(∃a cp,e= .returned (.slice a tl cp))∧Below w.heap.size w w':=by
 obtain⟨D,T,Qu,G,rg,hp,rfl⟩:=h.ex
 refine hp.all.mono ?_
 rintro e w' ⟨v,rfl,ho,hb⟩
 obtain⟨a,cp,rfl⟩:=kV ho
 exact⟨⟨a,cp,rfl⟩,hb⟩
theorem kN.bound(h:kN W w J q c Lb tl)(p:Int): -1000000≤aM Lb p∧aM Lb p≤65536:=by
 obtain⟨D,T,Qu,G,rg,hp,ht⟩:=h.ex
 exact hp.pc.tree.good.left p
theorem kN.few(h:kN W w J q c Lb tl):tl≤8:=by
 obtain⟨D,T,Qu,G,rg,hp,rfl⟩:=h.ex
 have h1:=hp.pc.good.len
 have h2:=hp.pc.good.most
 omega
theorem kN.fork(h:kN W w J q c Lb tl)(hi:I64 p):Calls Tryz.prog 11 #[.pointer (some ⟨J.ps,0,none⟩), .int .i64 p, .int .i64 k] w fun e w'=>KeepP w w'∧∃x y,e= .returned (.tuple #[.int .i64 x, .int .i64 y])∧((y≠0∧kN W w' J q c Lb tl)∨(y=0∧vE W w' J q c Lb tl p k x)):=by
 obtain⟨D,T,Qu,G,rg,hp,ht⟩:=h.ex
 refine(hp.fork (quota:=k) hi).mono ?_
 rintro e w' ⟨rfl,hk,⟨hne,hs⟩|⟨h0,c',D',G',dn,iZ,hs,_,hL,_,_,hF,_⟩⟩
 ·exact⟨hk,_,_,rfl,Or.inl ⟨hne,D,T,Qu,G,rg,hs,ht⟩⟩
 ·obtain⟨b1,b2,b3,_,b5⟩:=nW h0
  obtain⟨o1,_⟩:=hp.fit.born b2 b1 b3 b5
  exact⟨hk,_,_,rfl,Or.inr ⟨h0,w,D,T,Qu,G,rg,hp,ht,gQ h0,b2,b5,by rw[gQ h0];exact o1,b1,c',D',_,dn,G',iZ,_,hs,by rw[gQ h0];exact hL,fun l hl=>by
   rw[gQ h0]at hl
   exact⟨by rw[hF.dom,if_neg hl],fun U r y hr hy=>by rw[hF.rd U l r y hr hy,if_neg hl]⟩⟩⟩
theorem kN.spawn(h:kN W w J q c Lb tl)(hi:I64 p){a:Int}(ha:0≤a∧a<4294967296):Calls Tryz.prog 12 #[.pointer (some ⟨J.ps,0,none⟩), .int .i64 p, .int .i64 k, .int .u32 a] w fun e w'=>KeepP w w'∧∃x y,e= .returned (.tuple #[.int .i64 x, .int .i64 y])∧((y≠0∧kN W w' J q c Lb tl)∨(y=0∧vE W w' J q c Lb tl p k x)):=by
 obtain⟨D,T,Qu,G,rg,hp,ht⟩:=h.ex
 refine(hp.spawn (quota:=k) hi ha).mono ?_
 rintro e w' ⟨rfl,hk,⟨hne,hs⟩|⟨h0,c',D',G',dn,iZ,hs,_,hL,_,_,hF⟩⟩
 ·exact⟨hk,_,_,rfl,Or.inl ⟨hne,D,T,Qu,G,rg,hs,ht⟩⟩
 ·obtain⟨b1,b2,b3,_,b5⟩:=nW h0
  obtain⟨o1,_⟩:=hp.fit.born b2 b1 b3 b5
  exact⟨hk,_,_,rfl,Or.inr ⟨h0,w,D,T,Qu,G,rg,hp,ht,gQ h0,b2,b5,by rw[gQ h0];exact o1,b1,c',D',_,dn,G',iZ,_,hs,by rw[gQ h0];exact hL,fun l hl=>by
   rw[gQ h0]at hl
   subst hF
   have e:aT D (aB 1 T) (some qg) l=D l:=aI _ _ _ hl
   exact⟨by rw[e],fun U r y _ _=>by unfold kJ;rw[e]⟩⟩⟩
theorem vE.left(h:vE W w J q c Lb tl p k ch){d:Int}(hd:aM Lb p-k=d):Calls Tryz.prog 22 #[.pointer (some ⟨J.ps,0,none⟩), .int .i64 p] w fun e w'=>e= .returned (.int .i64 d)∧Below w.heap.size w w':=by
 obtain⟨w0,D,T,Qu,G,rg,h1,h2,h3,h4,h5,h6,h7,c',D',wQ,dn,G',iZ,m,h8,h9,h10⟩:=h.ex
 exact h8.left p (by rw[h9,Na h6];exact hd)
theorem Ow{w0 w':World}{D:Int→Option Sp}{T:List Nd}{Qu:List Int}{G:Int→Option Pc}{rg:Int→Nat→Int}(h1:eD W w0 J q c D T Qu Lb G rg)(h4:fu T p=1)(h5:lX J.n T p=0)(h6:gT Lb (aB 1 T) p k=0){D':Int→Option Sp}{wQ:List Int}{dn:List Nd}{G':Int→Option Pc}{iZ:Int→Nat→Int}{m:Int}(h9:dn=aD (bX Lb (aB 1 T) p k) (aB 1 T) m)(h10:∀l,l≠aB 1 T→(D' l).isSome=(D l).isSome∧∀(U:Nat→Nat→Int) r y,r<1024→y<32→kJ D' U l r y=kJ D U l r y){a:Int}{c2:Nat}{D2:Int→Option Sp}{Qu2:List Int}{WG:List Nd}{G2:Int→Option Pc}{ZY:Int→Nat→Int}(hs:eD W w' J q c2 D2 (gu J.n (eZ J.n T p) (aB 1 T) a) Qu2 WG G2 ZY)(hx:ExR J (eZ J.n T p) wQ dn G' D' iZ (aB 1 T) a D2 Qu2 WG G2 ZY):kN W w' J q c Lb (T.length+1):=by
 obtain⟨s0,_⟩:=nV h1.fit.good h5
 have hG:G (aB 1 T)=none:=by
  cases hg:G (aB 1 T)with
  |none=>rfl
  |some x=>
   have:=(h1.fit.jh (aB 1 T)).1 (by rw[hg];rfl)
   unfold gy at this
   omega
 have hD:=h1.pc.noD hG
 obtain⟨_,_,o3,_,o5⟩:=zX h1.pc.tree h6
 have hL:WG=Lb:=by rw[hx.l,h9,MU,o3,o5]
 subst hL
 have hc:c2=c:=h1.pc.same hs.pc (wP.kid hD h10 hx.d)
 subst hc
 exact⟨_,_,_,_,_,hs,(h1.fit.kid h4 h5).2.2⟩
theorem vE.num(h:vE W w J q c Lb tl p k ch):1≤ch∧ch≤8:=by
 obtain⟨w0,D,T,Qu,G,rg,h1,h2,h3,h4,h5,h6,h7,c',D',wQ,dn,G',iZ,m,h8,h9,h10⟩:=h.ex
 obtain⟨_,s1,_⟩:=nV h1.fit.good h5
 have:=h1.fit.good.most.2
 omega
theorem vE.quota(h:vE W w J q c Lb tl p k ch):1≤k∧k≤256:=by
 obtain⟨w0,D,T,Qu,G,rg,h1,h2,h3,h4,h5,h6,h7,_⟩:=h.ex
 exact h7
theorem vE.exit(h:vE W w J q c Lb tl p k ch){a:Int}(ha:0≤a∧a≤4294967295):Calls Tryz.prog 16 #[.pointer (some ⟨J.ps,0,none⟩), .int .i64 ch, .int .u32 a] w fun e w'=>e= .returned (.int .i64 0)∧KeepP w w'∧kN W w' J q c Lb (tl+1):=by
 have hn:=h.num
 obtain⟨w0,D,T,Qu,G,rg,h1,rfl,rfl,h4,h5,h6,h7,c',D',wQ,dn,G',iZ,m,h8,h9,h10⟩:=h.ex
 have e0:=(h1.fit.kid (a:=a) h4 h5).2.1
 refine(h8.exit (a:=a) (by unfold I64;omega) ha).mono ?_
 rintro e w' ⟨rfl,hk,⟨hne,_⟩|⟨_,c2,D2,Qu2,WG,G2,ZY,hs,hx⟩⟩
 ·exact absurd e0 hne
 ·exact⟨by rw[e0],hk,Ow h1 h4 h5 h6 h9 h10 hs hx⟩
theorem vE.kill(h:vE W w J q c Lb tl p k ch){a:Int}(ha:0≤a∧a≤4294967295):Calls Tryz.prog 18 #[.pointer (some ⟨J.ps,0,none⟩), .int .i64 p, .int .i64 ch, .int .u32 a] w fun e w'=>e= .returned (.int .i64 0)∧KeepP w w'∧kN W w' J q c Lb (tl+1):=by
 have hn:=h.num
 obtain⟨w0,D,T,Qu,G,rg,h1,rfl,rfl,h4,h5,h6,h7,c',D',wQ,dn,G',iZ,m,h8,h9,h10⟩:=h.ex
 obtain⟨a0,e0,_⟩:=h1.fit.kid (a:=a) h4 h5
 have ek:wY (eZ J.n T p) p (aB 1 T)=0:=by unfold wY;rw[a0];simp[e0]
 refine(h8.kill (p:=p) (a:=a) (by unfold I64;omega) ha).mono ?_
 rintro e w' ⟨rfl,hk,⟨hne,_⟩|⟨_,c2,D2,Qu2,WG,G2,ZY,hs,hx⟩⟩
 ·exact absurd ek hne
 ·exact⟨by rw[ek],hk,Ow h1 h4 h5 h6 h9 h10 hs hx⟩
theorem kN.wait(h:kN W w J q c Lb tl)(hi:I64 p):Calls Tryz.prog 17 #[.pointer (some ⟨J.ps,0,none⟩), .int .i64 p] w fun e w'=>(∃x,e= .returned (.int .i64 x))∧KeepP w w'∧∃tl',kN W w' J q c Lb tl':=by
 obtain⟨D,T,Qu,G,rg,hp,ht⟩:=h.ex
 refine(hp.wait hi).mono ?_
 rintro e w' ⟨rfl,hk,⟨_,hs⟩|⟨_,hs⟩⟩
 ·exact⟨⟨_,rfl⟩,hk,_,_,_,_,_,_,hs,rfl⟩
 ·exact⟨⟨_,rfl⟩,hk,_,_,_,_,_,_,hs,rfl⟩
end
end
end Go.Proofs.YtammlljefhakmaaGreatDoor
