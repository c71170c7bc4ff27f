/- Helps of the proof. No condition. -/
import Derived.Test.YtammlljefhakmaaGreatDoorIO
namespace Go.Proofs.YtammlljefhakmaaGreatDoor
open Go.RowKit Go.Maps
set_option maxRecDepth 100000
section
def zh(T:List Nd):Prop:=∀i,dh T i→i=1
theorem OE{T:List Nd}{p:Int}(h1:p≠1)(h:eY T p≠0):¬dh T p:=by
 unfold eY at h
 unfold dh eT
 cases hx:aD p T with
 |none=>simp
 |some x=>
  rw[hx]at h
  simp only[if_neg h1]at h
  by_cases h3:x.2.2.1=3
  ·simp only;omega
  ·rw[if_neg h3]at h;exact absurd rfl h
theorem Mv{n:Int}{L:List Nd}(h:aL n L):∀k:Nat,(kH k L).length+(mH k L).length=L.length
 |0=>by simp[kH,mH]
 | k+1=>by
  have ih:=Mv h k
  have hk:=h.YQ k
  rw[kH,mH,List.length_append]
  unfold kG oG
  cases hs:kT ((k:Int)+1) (kH k L)with
  |none=>simpa using ih
  |some c=>
   have hc:=(lg hs).2.1
   have h1:=zw (hk.setSt ((k:Int)+1) 1 (by decide)).up (List.mem_map.2 ⟨c,hc,rfl⟩)
   rw[bV,List.length_map]at h1
   simp only[List.length_singleton]
   omega
section
variable {n:Int} {T:List Nd} {Qu:List Int} {Lb:List Nd} {G:Int→Option Pc}
theorem jN.alone(h:jN n T Qu Lb G)(ha:zh T):(∀y∈T,y.1≠1→y.2.2.1=3∧y.2.1=1)∧eT T 1=1:=by
 obtain⟨x,hx,hx0,hx3⟩:=h.wh.first
 have hxm:=aj hx
 have h3:∀y∈T,y.1≠1→y.2.2.1=3:=fun y hy hne=>by
  have hat:=dI h.good.up hy
  have hr:=(h.good.at_ hat).2.2.2.2.1
  refine Classical.byContradiction fun e=>hne (ha y.1 ?_)
  unfold dh
  rw[iY hat]
  omega
 have hp:∀y∈T,y.1≠1→y.2.1=1:=fun y hy hne=>by
  obtain⟨f,_,hf⟩:=h.wh.tree
  obtain⟨z,hz,hz1,_⟩:=hf y hy hne
  refine Classical.byContradiction fun e=>?_
  exact h.wh.zom z hz (h3 z hz (by rw[hz1];exact e)) y hy hz1.symm
 refine⟨fun y hy hne=>⟨h3 y hy hne,hp y hy hne⟩,?_⟩
 rw[iY hx]
 have hr:=(h.good.at_ hx).2.2.2.2.1
 refine Classical.byContradiction fun e=>?_
 have h2:x.2.2.1=2:=by omega
 obtain⟨k1,k2⟩:=h.wh.wait x hxm.1 h2
 rw[hxm.2]at k1 k2
 obtain⟨y,hy,hy1⟩:=gq.1 k1
 have hyn:y.1≠1:=fun e=>by
  have h4:=dI h.good.up hy
  rw[e,hx]at h4
  cases h4
  omega
 exact ni.1 (k2 (by decide)) y hy ⟨hy1,h3 y hy hyn⟩
theorem jN.ab6(h:jN n T Qu Lb G)(ha:zh T):(T.length≤1→fV T 1≠0)∧(fV T 1=0→zh (fZ n T 1)∧(fZ n T 1).length+1≤T.length)∧(fV T 1≠0→T.length≤1):=by
 obtain⟨x,hx,hx0,hx3⟩:=h.wh.first
 have hxm:=aj hx
 obtain⟨hz,hs⟩:=h.alone ha
 refine⟨fun hl e=>?_,fun e0=>?_,fun hne=>?_⟩
 ·obtain⟨y,hy,hy1⟩:=gq.1 (ru e).2.1
  match T,hl,hxm,hy with
  |[],_,hxm,_=>exact absurd hxm.1 (by simp)
  |[a],_,hxm,hy=>
   have e1:=List.mem_singleton.1 hxm.1
   have e2:=List.mem_singleton.1 hy
   rw[e2,←e1,hx0]at hy1
   cases hy1
  |a::b::r,hl,_,_=>simp at hl
 ·obtain⟨_,hf⟩:=h.Ph e0
  have ha':zh (fZ n T 1):=fun i hi=>ha i ((h.iK i).1 ((hf.iK i).2 hi))
  refine⟨ha',?_⟩
  have hs':=(hf.alone ha').2
  have hM:aL n (T.map (setSt 1 2)):=h.good.setSt 1 2 (by decide)
  have eL:fZ n T 1=kH n.toNat (T.map (setSt 1 2)):=by unfold fZ qD;rw[if_pos e0]
  have hst:eT (T.map (setSt 1 2)) 1=2:=by
   rw[Dy (bV _ _),hx]
   show(setSt 1 2 x).2.2.1=2
   unfold setSt
   rw[if_pos hxm.2]
  have hlen:=Mv hM n.toNat
  rw[List.length_map,←eL]at hlen
  rw[eL,(tX hM n.toNat).1,hst]at hs'
  rcases hs' with hs'|⟨r,hr,_⟩
  ·cases hs'
  ·have:=List.length_pos_of_mem hr
   omega
 ·refine Classical.byContradiction fun hl=>hne ?_
  obtain⟨y,hy,hyn⟩:∃y∈T,y.1≠1:=by
   have hup:=h.good.up
   have hok:=h.good.ok
   match T,hl,hup,hok with
   |[],hl,_,_=>simp at hl
   |[a],hl,_,_=>simp at hl
   |a::b::r,_,hup,hok=>
    refine⟨b,by simp,fun e=>?_⟩
    have h1:=(List.pairwise_cons.1 hup).1 b (by simp)
    have h2:=(hok a (by simp)).1.1
    omega
  have hc:mP 1 T=true:=gq.2 ⟨y,hy,(hz y hy hyn).2⟩
  rw[iY hx]at hs
  unfold fV
  rw[hx]
  simp only[hc,hs,if_true]
theorem jN.last(h:jN n T Qu Lb G)(ha:zh T)(hq:gH Qu):Qu.length=1∧1≤T.length∧(G 1).isSome=true∧(∀i,(aD i Lb).isSome=true↔i=1)∧∀i,i≠1→G i=none:=by
 have hs:=(h.alone ha).2
 have hl1:dh T 1:=Or.inl hs
 have hl:∀i,dh T i↔i=1:=fun i=>⟨ha i,fun e=>by rw[e];exact hl1⟩
 have hm:∀i,i∈Qu→i=1:=fun i hi=>ha i (Or.inl ((h.row i).1 hi))
 have h1:(1:Int)∈Qu:=(h.row 1).2 hs
 refine⟨?_,?_,(h.iK 1).2 hl1,fun i=>by rw[h.con,hl],fun i hi=>?_⟩
 ·have ho:=hq.once
  match Qu,h1,hm,ho with
  |[],h1,_,_=>simp at h1
  |[a],_,_,_=>rfl
  |a::b::r,_,hm,ho=>
   have e1:=hm a (by simp)
   have e2:=hm b (by simp)
   rw[e1,e2]at ho
   exact absurd ho (by simp)
 ·obtain⟨x,hx,_⟩:=h.wh.first
  exact List.length_pos_of_mem (aj hx).1
 ·cases hg:G i with
  |none=>rfl
  |some s=>exact absurd ((hl i).1 ((h.iK i).1 (by rw[hg];rfl))) hi
end
theorem J.ab7{n q c:Nat}{D:Int→Option Sp}{Q:Nat→Nat}{Lb:List Nd}{P:Int→Nat→Option Bool}(h:J n q c D Q Lb ig P){F:Sp}(hD:D 1=some F)(hF:∀p,p<1024→(F p).1=false)(hN:∀j,j≠1→D j=none)(hL:∀i,(aD i Lb).isSome=true↔i=1):(c:Int)=(q:Int)-1∧aS Lb 1=(q:Int)-1:=by
 have hc1:fI (D 1)=1:=by rw[hD];exact zQ hF
 have hh:∀i f,eO (D i) f=false:=fun i f=>by
  by_cases e:i=1
  ·rw[e,hD]
   cases hb:eO (some F) f with
   |false=>rfl
   |true=>
    obtain⟨p,hp,hp1,_⟩:=(dN F f).1 hb
    rw[hF p hp]at hp1
    cases hp1
  ·rw[hN i e];rfl
 have hs:(iO fun i=>fI (D i))=1:=by
  unfold iO
  dsimp only
  rw[hc1,hN 2 (by decide),hN 3 (by decide),hN 4 (by decide),hN 5 (by decide),hN 6 (by decide),hN 7 (by decide),hN 8 (by decide)]
  rfl
 have hq:=h.sum
 rw[Cv fun y _=>by rw[h.cnt y];exact SX fun j _=>by rw[hh j y];rfl,hs]at hq
 refine⟨by omega,?_⟩
 obtain⟨u,hu⟩:=h.tree.first
 have hb:=h.ko 1
 unfold aZ at hb
 rw[hu,hc1]at hb
 have hu0:=h.tree.good.ok _ (aj hu).1
 dsimp only[MR]at hu0
 have hsum:∀L:List Nd,(∀y∈L,y.2.1≠1)→bH 1 L=0:=fun L=>by
  induction L with
  |nil=>intro _;rfl
  |cons y r ih=>
   intro hy
   rw[bH,if_neg (hy y (by simp)),ih fun z hz=>hy z (by simp[hz])]
   rfl
 rw[gK hu,hsum Lb fun y hy e=>by
  have hat:=dI h.tree.good.up hy
  have h1:=(hL y.1).1 (by rw[hat];rfl)
  rw[h1,hu]at hat
  cases hat
  cases e]
 have:u.toNat=1:=hb
 simp only
 omega
end
section
section
variable {W0 w:World} {J:mE} {q c:Nat} {D:Int→Option Sp} {T:List Nd} {Qu:List Int} {Lb:List Nd} {G:Int→Option Pc} {rg:Int→Nat→Int}
theorem dY.YF(h:dY W0 w J q c D T Qu Lb G rg){p a:Int}(hi:I64 p)(ha:0≤a∧a≤4294967295):
  Calls Tryz.prog 16 #[.pointer (some ⟨J.ps,0,none⟩), .int .i64 p, .int .u32 a] w fun e w'=>(∃er,e= .returned (.int .i64 er))∧KeepP w w'∧∃c' D' T' DX dO G' kS,dY W0 w' J q c' D' T' DX dO G' kS∧(p≠1→¬dh T' p)∧(∀i,¬dh T i→¬dh T' i)∧G' 1=G 1:=by
 refine(h.exit hi ha).mono ?_
 rintro e w' ⟨rfl,hk,⟨h0,hp⟩|⟨h0,c',D',DX,dO,G',kS,hp,hx⟩⟩
 ·exact⟨⟨_,rfl⟩,hk,_,_,_,_,_,_,_,hp,fun h1=>OE h1 h0,fun _=>id,rfl⟩
 ·have hl:∀i,dh (iA J.n T p a) i↔dh T i∧i≠p:=fun i=>by rw[←hp.fit.iK i,hx.g,GV,h.fit.iK]
  refine⟨⟨_,rfl⟩,hk,_,_,_,_,_,_,_,hp,fun _ hh=>((hl p).1 hh).2 rfl,fun i hn hh=>hn ((hl i).1 hh).1,?_⟩
  rw[hx.g,iT _ _ (fun e=>(q9 h0).1 e.symm)]
structure DeS(W0 w:World)(J:mE)(q:Nat)(A:Int→Prop)(s:Option Pc):Prop where
 ex:∃c D T Qu Lb G rg,dY W0 w J q c D T Qu Lb G rg∧(∀l,A l→¬dh T l)∧G 1=s
theorem DeS.below{A:Int→Prop}{s:Option Pc}(h:DeS W0 w J q A s):Below W0.heap.size W0 w:=by
 obtain⟨c,D,T,Qu,Lb,G,rg,hp,h1⟩:=h.ex
 exact hp.below
theorem DeS.exit{A B:Int→Prop}{s:Option Pc}(h:DeS W0 w J q A s){p a:Int}(hi:I64 p)(ha:0≤a∧a≤4294967295)(hB:∀l,B l→A l∨p≠1∧l=p):
  Calls Tryz.prog 16 #[.pointer (some ⟨J.ps,0,none⟩), .int .i64 p, .int .u32 a] w fun e w'=>(∃er,e= .returned (.int .i64 er))∧KeepP w w'∧DeS W0 w' J q B s:=by
 obtain⟨c,D,T,Qu,Lb,G,rg,hp,h1,h2⟩:=h.ex
 refine(hp.YF hi ha).mono ?_
 rintro e w' ⟨he,hk,c',D',T',DX,dO,G',kS,hs,k1,k2,k3⟩
 refine⟨he,hk,c',D',T',DX,dO,G',kS,hs,fun l hl=>?_,k3.trans h2⟩
 rcases hB l hl with hA|⟨hn,rfl⟩
 ·exact k2 l (h1 l hA)
 ·exact k1 hn
structure AlS(W0 w:World)(J:mE)(q:Nat)(m:Nat)(s:Option Pc):Prop where
 ex:∃c D T Qu Lb G rg,dY W0 w J q c D T Qu Lb G rg∧zh T∧(T.length≤m∨T.length≤1)∧G 1=s
theorem AlS.wait{m:Nat}{s:Option Pc}(h:AlS W0 w J q (m+1) s):Calls Tryz.prog 17 #[.pointer (some ⟨J.ps,0,none⟩), .int .i64 1] w fun e w'=>(∃er,e= .returned (.int .i64 er))∧KeepP w w'∧AlS W0 w' J q m s:=by
 obtain⟨c,D,T,Qu,Lb,G,rg,hp,ha,hl,hg⟩:=h.ex
 obtain⟨_,a2,a3⟩:=hp.fit.ab6 ha
 refine(hp.wait (p:=1) (by unfold I64;decide)).mono ?_
 rintro e w' ⟨rfl,hk,⟨h0,hs⟩|⟨h0,hs⟩⟩
 ·exact⟨⟨_,rfl⟩,hk,_,_,_,_,_,_,_,hs,ha,Or.inr (a3 h0),hg⟩
 ·exact⟨⟨_,rfl⟩,hk,_,_,_,_,_,_,_,hs,(a2 h0).1,by have:=(a2 h0).2;omega,hg⟩
theorem DeS.alone{A:Int→Prop}{s:Option Pc}(h:DeS W0 w J q A s)(hA:∀l,2≤l→l≤8→A l){m:Nat}(hm:J.n≤(m:Int)):AlS W0 w J q m s:=by
 obtain⟨c,D,T,Qu,Lb,G,rg,hp,h1,h2⟩:=h.ex
 have h3:=hp.pc.good.len
 have h4:=hp.pc.good.most.2
 refine⟨c,D,T,Qu,Lb,G,rg,hp,fun i hi=>?_,Or.inl (by omega),h2⟩
 have hn:=dh.num hp.fit.good hi
 refine Classical.byContradiction fun e=>h1 i (hA i (by omega) (by omega)) hi
theorem dK.bare(h:dK W0 w J q c D T Qu Lb G rg){s:Pc}(hG:G 1=some s)(hs:s.ar=[])(hN:∀i,i≠1→G i=none)(hL:∀i,(aD i Lb).isSome=true↔i=1):(c:Int)=(q:Int)-1∧aS Lb 1=(q:Int)-1:=by
 obtain⟨fm,kw,Q,V,h1,_⟩:=h.Mk
 obtain⟨F,hD⟩:=h1.bl.TG hG
 refine h1.j.ab7 hD (fun p hp=>?_) (fun j hj=>h.noD (hN j hj)) hL
 cases hb:(F p).1 with
 |false=>rfl
 |true=>
  have h3:=h1.j.perm 1 F p hD hp hb
  unfold PG at h3
  rw[hG]at h3
  simp only[hs,fF]at h3
  cases h3
structure LaS(W0 w:World)(J:mE)(q:Nat):Prop where
 ex:∃c D T Qu Lb G rg,dY W0 w J q c D T Qu Lb G rg∧T.length=1∧Qu.length=1∧(c:Int)=(q:Int)-1∧aS Lb 1=(q:Int)-1
theorem AlS.last{m:Nat}{s:Pc}(h:AlS W0 w J q m (some s))(hm:m≤1)(hs:s.ar=[]):LaS W0 w J q:=by
 obtain⟨c,D,T,Qu,Lb,G,rg,hp,ha,hl,hg⟩:=h.ex
 obtain⟨k1,k2,_,k4,k5⟩:=hp.fit.last ha hp.pc.yX.good
 obtain⟨e1,e2⟩:=hp.pc.bare hg hs k5 k4
 exact⟨c,D,T,Qu,Lb,G,rg,hp,by omega,k1,e1,e2⟩
theorem LaS.step{w':World}(h:LaS W0 w J q)(hb:Below w.heap.size w w'):LaS W0 w' J q:=by
 obtain⟨c,D,T,Qu,Lb,G,rg,hp,h1⟩:=h.ex
 exact⟨c,D,T,Qu,Lb,G,rg,hp.step hb,h1⟩
theorem LaS.below(h:LaS W0 w J q):Below W0.heap.size W0 w:=by
 obtain⟨c,D,T,Qu,Lb,G,rg,hp,h1⟩:=h.ex
 exact hp.below
theorem LaS.all(h:LaS W0 w J q):Calls Tryz.prog 20 #[.pointer (some ⟨J.ps,0,none⟩)] w fun e w'=>(∃a cp,e= .returned (.slice a 1 cp))∧Below w.heap.size w w':=by
 obtain⟨c,D,T,Qu,Lb,G,rg,hp,h1,_⟩:=h.ex
 refine hp.all.mono ?_
 rintro e w' ⟨v,rfl,ho,hb⟩
 obtain⟨a,cp,rfl⟩:=jE ho
 rw[h1]
 exact⟨⟨_,_,rfl⟩,hb⟩
theorem LaS.left(h:LaS W0 w J q):Calls Tryz.prog 22 #[.pointer (some ⟨J.ps,0,none⟩), .int .i64 1] w fun e w'=>e= .returned (.int .i64 ((q:Int)-1))∧Below w.heap.size w w':=by
 obtain⟨c,D,T,Qu,Lb,G,rg,hp,_,_,_,h1⟩:=h.ex
 exact hp.left 1 h1
theorem LaS.free(h:LaS W0 w J q):Calls Tryz.prog 35 #[.pointer (some ⟨J.I.X.pb,0,none⟩), .int .i64 0] w fun e w'=>e= .returned (.int .i64 ((q:Int)-1))∧Below w.heap.size w w':=by
 obtain⟨c,D,T,Qu,Lb,G,rg,hp,_,_,h1,_⟩:=h.ex
 rw[←h1]
 exact hp.ags
end
end
end Go.Proofs.YtammlljefhakmaaGreatDoor
