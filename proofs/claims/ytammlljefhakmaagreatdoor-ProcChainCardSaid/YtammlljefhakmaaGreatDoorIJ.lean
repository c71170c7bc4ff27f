/- Helps of the proof. No condition. -/
import Derived.Test.YtammlljefhakmaaGreatDoorII
import Derived.Deep.RegionHeld3
import Derived.Deep.DeepCutAuto
namespace Go.Proofs.YtammlljefhakmaaGreatDoor
open Go.RowKit
set_option maxRecDepth 100000
def eT(T:List Nd)(i:Int):Int:=match aD i T with
 |none=>0
 |some x=>x.2.2.1
def dh(T:List Nd)(i:Int):Prop:=eT T i=1∨eT T i=2
structure jN(n:Int)(T:List Nd)(Qu:List Int)(Lb:List Nd)(G:Int→Option Pc):Prop where
 good:aL n T
 wh:Wh 8 T
 row:∀i,i∈Qu↔eT T i=1
 iK:∀i,(G i).isSome=true↔dh T i
 con:∀i,(aD i Lb).isSome=true↔dh T i
theorem iY{T:List Nd}{i:Int}{x:Nd}(h:aD i T=some x):eT T i=x.2.2.1:=by unfold eT;rw[h]
theorem GK{T:List Nd}{i:Int}(h:aD i T=none):eT T i=0:=by unfold eT;rw[h]
theorem aL.st{n:Int}{T:List Nd}(h:aL n T){i:Int}(hi:eT T i≠0):∃x,aD i T=some x∧eT T i=x.2.2.1∧(1≤i∧i≤n)∧1≤x.2.2.1∧x.2.2.1≤3:=by
 cases hx:aD i T with
 |none=>exact absurd (GK hx) hi
 |some x=>
  obtain⟨h1,h2,h3⟩:=h.at_ hx
  exact⟨x,rfl,iY hx,h1,h3.2.2.1⟩
theorem dh.num{n:Int}{T:List Nd}(h:aL n T){i:Int}(hi:dh T i):1≤i∧i≤n:=by
 obtain⟨x,_,_,h1,_⟩:=h.st (i:=i) (by rcases hi with e|e<;>omega)
 exact h1
theorem xD{n:Int}{T:List Nd}(h:aL n T){p:Int}(he:l6 n T p=0):eT T (aG 1 T)=0∧(1≤aG 1 T∧aG 1 T≤n)∧(∀x∈T,x.1≠aG 1 T)∧jd n T p=jF (aG 1 T,p,1,0) T∧∀i,eT (jd n T p) i=if i=aG 1 T then 1 else eT T i:=by
 have hl:(T.length:Int)≠n:=by
  unfold l6 at he
  split at he
  ·cases he
  ·split at he
   ·cases he
   ·split at he
    ·cases he
    ·assumption
 obtain⟨h1,h2⟩:=h.free hl
 have e1:jd n T p=jF (aG 1 T,p,1,0) T:=by unfold jd;rw[if_pos he]
 refine⟨GK (dZ.2 h2),h1,h2,e1,fun i=>?_⟩
 rw[e1]
 unfold eT
 rw[ji h2]
 by_cases e:i=aG 1 T
 ·rw[if_pos e,if_pos e]
 ·rw[if_neg e,if_neg e]
theorem Yp{n:Int}{T:List Nd}{p:Int}(hp:eT T p=1):l6 n T p=if(T.length:Int)=n then 3 else 0:=by
 unfold l6
 unfold eT at hp
 cases hx:aD p T with
 |none=>rw[hx]at hp;cases hp
 |some x=>rw[hx]at hp;simp only at hp ⊢;rw[hp,if_neg (by decide)]
theorem jN.add{n:Int}{T:List Nd}{Qu:List Int}{Lb dO:List Nd}{G G':Int→Option Pc}(h:jN n T Qu Lb G){p:Int}(he:l6 n T p=0)(hL:∀i,(aD i dO).isSome=true↔(aD i Lb).isSome=true∨i=aG 1 T)(hG:∀i,(G' i).isSome=true↔(G i).isSome=true∨i=aG 1 T):jN n (jd n T p) (Qu++[aG 1 T]) dO G':=by
 obtain⟨h0,h1,h2,_,h3⟩:=xD h.good he
 have hl:∀i,dh (jd n T p) i↔dh T i∨i=aG 1 T:=fun i=>by
  unfold dh
  rw[h3]
  by_cases e:i=aG 1 T
  ·rw[if_pos e];simp[e]
  ·rw[if_neg e];simp[e]
 refine⟨h.good.add p,h.wh.add h.good p,fun i=>?_,fun i=>by rw[hG,hl,h.iK],fun i=>by rw[hL,hl,h.con]⟩
 rw[List.mem_append,h.row,h3,List.mem_singleton]
 by_cases e:i=aG 1 T
 ·rw[if_pos e];simp[e]
 ·rw[if_neg e];simp[e]
theorem Ul{n:Int}{L:List Nd}(h:aL n L)(j:Int):(kT j L=none∧kG j L=L∧oG j L=[])∨∃c,kT j L=some c∧oG j L=[(j,c.1,c.2.2.2)]∧eT L j=2∧eT L c.1=3∧∀i,eT (kG j L) i=if i=c.1 then 0 else if i=j then 1 else eT L i:=by
 cases hs:kT j L with
 |none=>left;unfold kG oG;rw[hs];exact⟨rfl,rfl,rfl⟩
 | some c=>
  right
  obtain⟨⟨p,hp,hp2⟩,hc1,hc2,hc3⟩:=lg hs
  have hat:=dI h.up hc1
  refine⟨c,rfl,by unfold oG;rw[hs],by rw[iY hp];exact hp2,by rw[iY hat];exact hc3,fun i=>?_⟩
  have e1:kG j L=fT c.1 (L.map (setSt j 1)):=by unfold kG;rw[hs]
  rw[e1]
  unfold eT
  rw[iG]
  by_cases e:i=c.1
  ·rw[if_pos e,if_pos e]
  ·rw[if_neg e,if_neg e,bC (bV _ _)]
   by_cases e2:i=j
   ·rw[if_pos e2,e2,hp]
    show(setSt j 1 p).2.2.1=1
    unfold setSt
    rw[if_pos (aj hp).2]
   ·rw[if_neg e2]
    cases hx:aD i L with
    |none=>rfl
    |some x=>
     show(setSt j 1 x).2.2.1=x.2.2.1
     unfold setSt
     rw[if_neg (by rw[(aj hx).2];exact e2)]
theorem Jf{L:List Nd}:∀(k:Nat) {c:Nd},c∈kH k L→c.2.2.1=3→c∈L
 |0,_,h,_=>h
 | k+1,c,h,h3=>by
  rw[kH]at h
  unfold kG at h
  split at h
  ·exact Jf k h h3
  ·obtain⟨x,hx,rfl⟩:=List.mem_map.1 (iF.1 h).1
   unfold setSt at h3 ⊢
   split
   ·rename_i e;rw[if_pos e]at h3;cases h3
   ·rename_i e;rw[if_neg e]at h3;exact Jf k hx h3
theorem tX{n:Int}{L:List Nd}(h:aL n L):∀k:Nat,(∀i,eT (kH k L) i=1↔eT L i=1∨∃r∈mH k L,r.1=i)∧(∀i,dh (kH k L) i↔dh L i)∧(∀r∈mH k L,eT L r.1=2∧(r.2.1,r.1,3,r.2.2)∈L)∧(∀i,eT (kH k L) i=3→eT L i=3)∧∀i,eT (kH k L) i=2→eT L i=2
 |0=>⟨fun i=>by simp[kH,mH],fun _=>Iff.rfl,by simp[mH],fun _=>id,fun _=>id⟩
 | k + 1=>by
  obtain⟨a1,a2,a3,a4,a5⟩:=tX h k
  have hk:=h.YQ k
  rw[kH,mH]
  rcases Ul hk ((k:Int)+1)with⟨_,e1,e2⟩|⟨c,hs,e2,h2,h3,hst⟩
  ·rw[e1,e2,List.append_nil];exact⟨a1,a2,a3,a4,a5⟩
  ·rw [e2]
   have hcm:=(lg hs).2.1
   refine⟨fun i=>?_,fun i=>?_,fun r hr=>?_,fun i=>?_,fun i=>?_⟩
   ·rw [hst]
    by_cases e:i=c.1
    ·rw [if_pos e]
     have:=a1 i
     rw[e,h3]at this
     constructor
     ·intro hh;cases hh
     ·rintro(hh|⟨r,hr,he⟩)
      ·rw[e]at hh;exact absurd (this.2 (Or.inl hh)) (by decide)
      ·rcases List.mem_append.1 hr with hr|hr
       ·exact absurd (this.2 (Or.inr ⟨r,hr,he.trans e⟩)) (by decide)
       ·rw[List.mem_singleton.1 hr]at he
        have he:(k:Int)+1=i:=he
        rw[he,e,h3]at h2
        cases h2
    ·rw[if_neg e]
     by_cases e2:i=(k:Int)+1
     ·rw[if_pos e2]
      exact⟨fun _=>Or.inr ⟨_,List.mem_append_right _ (List.mem_singleton.2 rfl),e2.symm⟩,fun _=>rfl⟩
     ·rw[if_neg e2,a1]
      refine or_congr_right ⟨fun⟨r,hr,he⟩=>⟨r,List.mem_append_left _ hr,he⟩,fun⟨r,hr,he⟩=>?_⟩
      rcases List.mem_append.1 hr with hr|hr
      ·exact⟨r,hr,he⟩
      ·rw[List.mem_singleton.1 hr]at he;exact absurd he.symm e2
   ·rw[←a2 i]
    unfold dh
    rw[hst]
    by_cases e:i=c.1
    ·rw[if_pos e,e,h3];decide
    ·rw[if_neg e]
     by_cases e2:i=(k:Int)+1
     ·rw[if_pos e2,e2,h2];decide
     ·rw[if_neg e2]
   ·rcases List.mem_append.1 hr with hr|hr
    ·exact a3 r hr
    ·rw[List.mem_singleton.1 hr]
     obtain⟨_,_,hc2,hc3⟩:=lg hs
     refine⟨a5 _ h2,?_⟩
     have h4:=Jf k hcm hc3
     obtain⟨c0,c1,c2,c3⟩:=c
     simp only at hc2 hc3 h4 ⊢
     rw[←hc2,←hc3]
     exact h4
   ·rw[hst]
    by_cases e:i=c.1
    ·rw[if_pos e];intro hh;cases hh
    ·rw[if_neg e]
     by_cases e2:i=(k:Int)+1
     ·rw[if_pos e2];intro hh;cases hh
     ·rw[if_neg e2];exact a4 i
   ·rw[hst]
    by_cases e:i=c.1
    ·rw[if_pos e];intro hh;cases hh
    ·rw[if_neg e]
     by_cases e2:i=(k:Int)+1
     ·rw[if_pos e2];intro hh;cases hh
     ·rw[if_neg e2];exact a5 i
theorem Um{L:List Int}{n i:Int}(hn:pI n=true):i∈jS L n↔i∈L∨n=i:=by
 unfold jS
 rw[if_pos hn]
 split
 ·rename_i h
  exact⟨Or.inl,fun h2=>h2.elim id fun e=>e▸h⟩
 ·simp[eq_comm]
theorem Dw{i:Int}:∀(R:List Rp) {Q0:List Int},(∀r∈R,pI r.1=true)→(i∈R.foldl (fun Q r=>jS Q r.1) Q0↔i∈Q0∨∃r∈R,r.1=i)
 |[],Q0,_=>by simp
 |r::R,Q0,h=>by
  rw[List.foldl_cons,Dw R (fun x hx=>h x (List.mem_cons_of_mem _ hx)),Um (h r (by simp)),or_assoc]
  refine or_congr_right ?_
  simp
theorem Dx{L:List Int}{n i:Int}(hn:pI n=true):i∈gu L n↔i∈L∧i≠n:=by
 unfold gu
 rw[if_pos hn,List.mem_filter]
 simp
theorem Dy{T:List Nd}{f:Nd→Nd}(hf:∀p,(f p).1=p.1)(i:Int):eT (T.map f) i=match aD i T with|none=>0|some x=>(f x).2.2.1:=by
 unfold eT
 rw[bC hf]
 cases aD i T<;>rfl
theorem q9{T:List Nd}{p:Int}(h:eY T p=0):p≠1∧∃x,aD p T=some x∧x.2.2.1≠3:=by
 unfold eY at h
 split at h
 ·cases h
 ·rename_i x hx
  split at h
  ·cases h
  ·rename_i h1
   split at h
   ·cases h
   ·rename_i h3;exact⟨h1,x,hx,h3⟩
theorem zV{n:Int}{T:List Nd}(h:aL n T){p:Int}(he:eY T p=0):dh T p:=by
 obtain⟨_,x,hx,h3⟩:=q9 he
 have:=(h.at_ hx).2.2.2.2.1
 unfold dh
 rw[iY hx]
 omega
theorem Dz{T:List Nd}{p c:Int}{x:Nd}(hx:aD p T=some x)(i:Int):eT (mQ T p c) i=if i=p then 3 else eT T i:=by
 unfold mQ
 rw[Dy (kC _ _),bC (wE _ _)]
 have h1:∀y:Nd,(fP p 1 y).2.2=y.2.2:=fun y=>by unfold fP;split<;>rfl
 by_cases e:i=p
 ·rw[if_pos e,e,hx]
  simp only[Option.map_some,h1]
  unfold oC
  rw[if_pos (aj hx).2]
 ·rw[if_neg e]
  unfold eT
  cases hy:aD i T with
  |none=>rfl
  |some y=>
   simp only[Option.map_some,h1]
   unfold oC
   rw[if_neg (by rw[(aj hy).2];exact e)]
def OkR(n:Int)(r:Rp):Prop:=(1≤r.1∧r.1≤n)∧(1≤r.2.1∧r.2.1≤8)∧0≤r.2.2∧r.2.2<4294967296
theorem Yq{n:Int}{L:List Nd}(h:aL n L){k:Nat}{r:Rp}(hr:r∈mH k L):OkR n r:=by
 obtain⟨h1,h2⟩:=(tX h k).2.2.1 r hr
 obtain⟨x,_,_,h3,_⟩:=h.st (i:=r.1) (by rw[h1];decide)
 have h4:=h.ok _ h2
 have h5:=h.most
 simp only[okY]at h4
 unfold OkR
 omega
theorem xE{n i:Int}(h:1≤i∧i≤n)(hn:n≤8):pI i=true:=(sM i).2 (by omega)
section
variable {n:Int} {T:List Nd} {Qu:List Int} {Lb dO:List Nd} {G G':Int→Option Pc}
theorem jN.exit(h:jN n T Qu Lb G){p c:Int}(hc:0≤c∧c≤4294967295)(he:eY T p=0)(hL:∀i,(aD i dO).isSome=true↔(aD i Lb).isSome=true∧i≠p)(hG:∀i,(G' i).isSome=true↔(G i).isSome=true∧i≠p):(∀r∈jR n T p c,OkR n r)∧jN n (iA n T p c) ((jR n T p c).foldl (fun Q r=>jS Q r.1) (gu Qu p)) dO G':=by
 obtain⟨h1,x,hx,h3⟩:=q9 he
 have hpn:=(h.good.at_ hx).1
 have h8:=h.good.most.2
 have hM:=h.good.mQ p hc
 obtain⟨s1,s2,s3,_⟩:=tX hM n.toNat
 have eL:iA n T p c=kH n.toNat (mQ T p c):=by unfold iA qD;rw[if_pos he]
 have eR:jR n T p c=mH n.toNat (mQ T p c):=by unfold jR vD;rw[if_pos he]
 have hok:∀r∈jR n T p c,OkR n r:=fun r hr=>by rw[eR]at hr;exact Yq hM hr
 have hl:∀i,dh (iA n T p c) i↔dh T i∧i≠p:=fun i=>by
  rw[eL,s2]
  unfold dh
  rw[Dz hx]
  by_cases e:i=p
  ·rw[if_pos e];simp[e]
  ·rw[if_neg e];simp[e]
 refine⟨hok,h.good.exit p hc,h.wh.aeR h.good p hc,fun i=>?_,fun i=>by rw[hG,hl,h.iK],fun i=>by rw[hL,hl,h.con]⟩
 rw[Dw _ fun r hr=>xE (hok r hr).1 h8,Dx (xE hpn h8),eL,s1,h.row,Dz hx,eR]
 refine or_congr_left ?_
 by_cases e:i=p
 ·rw[if_pos e];simp[e]
 ·rw[if_neg e];simp[e]
theorem ru{T:List Nd}{p:Int}(h:fV T p=0):eT T p=1∧mP p T=true∧∃x,aD p T=some x:=by
 unfold fV at h
 split at h
 ·cases h
 ·rename_i x hx
  split at h
  ·rename_i hc
   split at h
   ·rename_i h1;exact⟨by rw[iY hx];exact h1,hc,x,hx⟩
   ·cases h
  ·cases h
theorem jN.Ph(h:jN n T Qu Lb G){p:Int}(he:fV T p=0):(∀r∈iZ n T p,OkR n r∧r.1=p)∧jN n (fZ n T p) (if iZ n T p=[]then gu Qu p else Qu) Lb G:=by
 obtain⟨h1,_,x,hx⟩:=ru he
 have hpn:=(h.good.at_ hx).1
 have h8:=h.good.most.2
 have hM:aL n (T.map (setSt p 2)):=h.good.setSt p 2 (by decide)
 obtain⟨s1,s2,s3,_⟩:=tX hM n.toNat
 have eL:fZ n T p=kH n.toNat (T.map (setSt p 2)):=by unfold fZ qD;rw[if_pos he]
 have eR:iZ n T p=mH n.toNat (T.map (setSt p 2)):=by unfold iZ vD;rw[if_pos he]
 have hst:∀i,eT (T.map (setSt p 2)) i=if i=p then 2 else eT T i:=fun i=>by
  rw[Dy (bV _ _)]
  by_cases e:i=p
  ·rw[if_pos e,e,hx]
   show(setSt p 2 x).2.2.1=2
   unfold setSt
   rw[if_pos (aj hx).2]
  ·rw[if_neg e]
   unfold eT
   cases hy:aD i T with
   |none=>rfl
   |some y=>
    show(setSt p 2 y).2.2.1=y.2.2.1
    unfold setSt
    rw[if_neg (by rw[(aj hy).2];exact e)]
 have hall:∀r∈iZ n T p,OkR n r∧r.1=p:=fun r hr=>by
  rw[eR]at hr
  refine⟨Yq hM hr,Classical.byContradiction fun hne=>?_⟩
  obtain⟨a1,a2⟩:=s3 r hr
  rw[hst,if_neg hne]at a1
  obtain⟨y,hy,hyz⟩:=List.mem_map.1 a2
  have hyT:y=(r.2.1,r.1,3,r.2.2):=by
   unfold setSt at hyz
   split at hyz
   ·have:=congrArg (fun z:Nd=>z.2.2.1) hyz;simp at this
   ·exact hyz
  obtain⟨z,hz,hz2,_⟩:=h.good.st (i:=r.1) (by rw[a1];decide)
  have:=(h.wh.wait z (aj hz).1 (by rw[←hz2,a1])).2 (by have:=(h.good.at_ hz).1;have:=(aj hz).2;omega)
  exact ni.1 this y hy ⟨by rw[hyT,(aj hz).2],by rw[hyT]⟩
 have hl:∀i,dh (fZ n T p) i↔dh T i:=fun i=>by
  rw[eL,s2]
  unfold dh
  rw[hst]
  by_cases e:i=p
  ·rw[if_pos e,e,h1];decide
  ·rw[if_neg e]
 refine⟨hall,h.good.wait p,h.wh.Ph h.good p,fun i=>?_,fun i=>by rw[hl,h.iK],fun i=>by rw[hl,h.con]⟩
 rw[eL,s1,hst,←eR]
 split
 ·rename_i e0
  rw[Dx (xE hpn h8),h.row,e0]
  by_cases e:i=p
  ·rw[if_pos e];simp[e]
  ·rw[if_neg e];simp[e]
 ·rename_i e0
  rw[h.row]
  by_cases e:i=p
  ·rw[if_pos e,e,h1]
   obtain⟨r,hr⟩:=List.exists_mem_of_ne_nil _ e0
   exact⟨fun _=>Or.inr ⟨r,hr,(hall r hr).2⟩,fun _=>rfl⟩
  ·rw[if_neg e]
   exact⟨Or.inl,fun hh=>hh.elim id fun⟨r,hr,hri⟩=>absurd (hri.symm.trans (hall r hr).2) e⟩
end
end Go.Proofs.YtammlljefhakmaaGreatDoor
namespace Go.Proofs.YtammlljefhakmaaGreatDoor
open Go.RowKit Go.Maps
set_option maxRecDepth 100000
def Oy(t:TypeId):Prop:=yJ t∧t≠76∧t≠166
instance(t:TypeId):Decidable (Oy t):=by unfold Oy;infer_instance
structure KeepP(w w':World):Prop where
 size:w.heap.size≤w'.heap.size
 box:∀{k:Nat} {cs:Array Value} {t:TypeId} {z:Nat×Nat},w.heap[k]? =some (.cells cs t z)→Oy t→w'.heap[k]? =some (.cells cs t z)
theorem KeepP.refl(w:World):KeepP w w:=⟨Nat.le_refl _,fun h _=>h⟩
theorem KeepP.trans{a b c:World}(h:KeepP a b)(k:KeepP b c):KeepP a c:=⟨Nat.le_trans h.size k.size,fun hk ht=>k.box (h.box hk ht) ht⟩
theorem KeepP.of{w w':World}(h:ay w w'):KeepP w w':=⟨h.size,fun hk ht=>h.box hk ht.1⟩
theorem KeepP.below{w w':World}(h:Below w.heap.size w w'):KeepP w w':=⟨h.size,fun hk _=>below_block h hk⟩
theorem KeepP.row{w w':World}(h:KeepP w w'){base k n:Nat}{e:TypeId}{v:Value}{xs:List Value}(ho:w.ownsRow base e k v n xs)(ht:Oy e):w'.ownsRow base e k v n xs:=by
 obtain⟨h1,h2⟩:=ho
 rcases h2 with h2|⟨g,cap,cur,rfl,hb,hg,r⟩
 ·exact⟨h1,Or.inl h2⟩
 ·exact⟨h1,Or.inr ⟨g,cap,cur,rfl,hb,h.box hg ht,r⟩⟩
section
variable {W0 w:World} {J:mE} {q c:Nat} {D:Int→Option Sp} {T:List Nd} {Qu:List Int} {Lb:List Nd} {G:Int→Option Pc} {rg:Int→Nat→Int}
theorem Ru.zW{w':World}{b m:Nat}{n:Int}{P:Pt}{L L':List Nd}(h:TabAt w b m n P L)(t:Ru w w' b m n P L'):KeepP w w':=
 ⟨t.only.size,fun {k cs ty z} hk ht=>t.only.kept hk fun hb=>by
  rcases hb with rfl|⟨i,hi⟩
  ·obtain⟨es,ck,hm⟩:=h.map.isMap
   rw[hm]at hk;cases hk
  ·obtain⟨x,_,hx⟩:=h.proc hi
   rw[hx]at hk
   cases hk
   exact ht.2.1 rfl⟩
theorem Bw.zW{w':World}{b:Nat}{L L':List Int}(h:xI w b L)(t:Bw w w' b L'):KeepP w w':=
 ⟨t.grown.size,fun {k cs ty z} hk ht=>(t.grown.block k (lt_of_block hk) fun e=>by
  obtain⟨cs',hb⟩:=h.block
  rw[Option.some.inj e]at hk
  rw[hb]at hk
  cases hk
  exact ht.2.2 rfl).trans hk⟩
theorem dK.add(h:dK W0 w J q c D T Qu Lb G rg)(p:Int)(hi:I64 p):Calls Tryz.prog 88 #[.pointer (some ⟨J.tb,0,none⟩), .int .i64 p] w fun e w'=>e= .returned (.tuple #[.int .i64 (wF J.n T p), .int .i64 (l6 J.n T p)])∧dK W0 w' J q c D (jd J.n T p) Qu Lb G rg∧KeepP w w':=by
 obtain⟨m,P,h1,h2⟩:=h.byT
 exact(Zv h1 p hi).mono fun e w' ⟨he,t⟩=>⟨he,h2 t,t.zW h1⟩
theorem dK.afK(h:dK W0 w J q c D T Qu Lb G rg)(p x:Int)(hi:I64 p)(hx:0≤x∧x≤4294967295):Calls Tryz.prog 52 #[.pointer (some ⟨J.tb,0,none⟩), .int .i64 p, .int .u32 x] w fun e w'=>(∃v,e= .returned (.tuple #[v, .int .i64 (eY T p)])∧w'.ownsRow w.heap.size 194 3 v (jR J.n T p x).length (Ac (jR J.n T p x)))∧dK W0 w' J q c D (iA J.n T p x) Qu Lb G rg∧KeepP w w':=by
 obtain⟨m,P,h1,h2⟩:=h.byT
 exact(Vy h1 p x hi hx).mono fun e w' ⟨he,t⟩=>⟨he,h2 t,t.zW h1⟩
theorem dK.afL(h:dK W0 w J q c D T Qu Lb G rg)(p:Int)(hi:I64 p):Calls Tryz.prog 59 #[.pointer (some ⟨J.tb,0,none⟩), .int .i64 p] w fun e w'=>(∃v,e= .returned (.tuple #[v, .int .i64 (fV T p)])∧w'.ownsRow w.heap.size 194 3 v (iZ J.n T p).length (Ac (iZ J.n T p)))∧dK W0 w' J q c D (fZ J.n T p) Qu Lb G rg∧KeepP w w':=by
 obtain⟨m,P,h1,h2⟩:=h.byT
 exact(VB h1 p hi).mono fun e w' ⟨he,t⟩=>⟨he,h2 t,t.zW h1⟩
theorem dK.push(h:dK W0 w J q c D T Qu Lb G rg)(p:Int):Calls Tryz.prog 58 #[.pointer (some ⟨J.qb,0,none⟩), .int .i64 p] w fun e w'=>e= .returned (.int .i64 (pJ Qu p))∧dK W0 w' J q c D T (jS Qu p) Lb G rg∧KeepP w w':=
 (Bz J.qb Qu p w h.yX).mono fun _ _ ⟨he,t⟩=>⟨he,h.byQ t,t.zW h.yX⟩
theorem dK.abN(h:dK W0 w J q c D T Qu Lb G rg)(p:Int):Calls Tryz.prog 55 #[.pointer (some ⟨J.qb,0,none⟩), .int .i64 p] w fun e w'=>e= .returned (.int .i64 (oV Qu p))∧dK W0 w' J q c D T (gu Qu p) Lb G rg∧KeepP w w':=
 (VK J.qb Qu p w h.yX).mono fun _ _ ⟨he,t⟩=>⟨he,h.byQ t,t.zW h.yX⟩
theorem dK.afM(h:dK W0 w J q c D T Qu Lb G rg):Calls Tryz.prog 51 #[.pointer (some ⟨J.qb,0,none⟩)] w fun e w'=>e= .returned (.int .i64 (oW Qu).1)∧dK W0 w' J q c D T (oW Qu).2 Lb G rg∧KeepP w w':=
 (VJ J.qb Qu w h.yX).mono fun _ _ ⟨he,t⟩=>⟨he,h.byQ t,t.zW h.yX⟩
theorem dK.abO(h:dK W0 w J q c D T Qu Lb G rg)(p:Int){d:Int}(hd:aS Lb p=d):Calls Tryz.prog 64 #[.pointer (some ⟨J.I.bb,0,none⟩), .int .i64 p] w fun e w'=>e= .returned (.int .i64 d)∧Below w.heap.size w w':=by
 obtain⟨fm,kw,Q,V,h1,_⟩:=h.Mk
 exact h1.bl.abF p hd
theorem dK.free(h:dK W0 w J q c D T Qu Lb G rg):Calls Tryz.prog 35 #[.pointer (some ⟨J.I.X.pb,0,none⟩), .int .i64 0] w fun e w'=>e= .returned (.int .i64 (c:Int))∧Below w.heap.size w w':=by
 obtain⟨fm,kw,Q,V,h1,_⟩:=h.Mk
 exact h1.bl.left
theorem dK.Ld(h:dK W0 w J q c D T Qu Lb G rg)(id up n:Int):Calls Tryz.prog 89 #[.pointer (some ⟨J.I.bb,0,none⟩), .int .i64 id, .int .i64 up, .int .i64 n] w fun e w'=>e= .returned (.int .i64 (jc Lb id up n))∧dK W0 w' J q c D T Qu (dx Lb id up n) G rg∧KeepP w w':=by
 obtain⟨fm,kw,Q,V,h1,h2⟩:=h.Mk
 exact(h1.bl.Ld id up n rfl).mono fun e w' ⟨he,hb,hk⟩=>⟨he,h2 ⟨hb,h1.j.Ld id up n⟩ hk,KeepP.of hk⟩
theorem dK.afN(h:dK W0 w J q c D T Qu Lb G rg)(id:Int)(hG:G id=none):Calls Tryz.prog 54 #[.pointer (some ⟨J.I.bb,0,none⟩), .int .i64 id] w fun e w'=>e= .returned (.int .i64 (iy Lb id))∧dK W0 w' J q c D T Qu (fq Lb id) G rg∧KeepP w w':=by
 obtain⟨fm,kw,Q,V,h1,h2⟩:=h.Mk
 exact(h1.shut id hG rfl).mono fun e w' ⟨he,hk,hs⟩=>⟨he,h2 hs hk,KeepP.of hk⟩
def afO(D D':Int→Option Sp)(i:Int):Prop:=D' i=none∧∀j,j≠i→(D' j).isSome=(D j).isSome∧∀(U:Nat→Nat→Int) r y,r<1024→y<32→ou D' U j r y=ou D U j r y
theorem dK.adV(h:dK W0 w J q c D T Qu Lb G rg){i:Int}(hi:(G i).isSome=true):Calls Tryz.prog 53 #[.pointer (some ⟨J.I.ss,0,none⟩), .int .i64 i] w fun e w'=>e= .returned (.int .i64 0)∧(∃c' D',dK W0 w' J q c' D' T Qu (qZ i Lb) (tT G i) rg∧afO D D' i)∧KeepP w w':=by
 obtain⟨s,hG⟩:=Option.isSome_iff_exists.1 hi
 obtain⟨fm,kw,Q,V,h1,h2⟩:=h.Mk
 exact(h1.adS hG).mono fun e w' ⟨he,hk,c',D',Q',hs,hn,ho⟩=>⟨he,⟨c',D',h2 hs hk,hn,ho⟩,KeepP.of hk⟩
theorem dK.zO(h:dK W0 w J q c D T Qu Lb G rg){i:Int}(he:jg G Lb i=0):Calls Tryz.prog 99 #[.pointer (some ⟨J.I.ss,0,none⟩), .int .i64 i] w fun e w'=>e= .returned (.int .i64 0)∧ay w w'∧∃c' s,dK W0 w' J q c' (aV D i (some qP)) T Qu (aF Lb i 1) (dn G i s) rg:=by
 obtain⟨fm,kw,Q,V,h1,h2⟩:=h.Mk
 refine(h1.open_ i).mono ?_
 rintro e w' ⟨rfl,hk,⟨hne,_⟩|⟨_,_,_,s,c',_,hs⟩⟩
 ·exact absurd he hne
 ·exact⟨by rw[he],hk,c',s,h2 hs hk⟩
structure Yr(D D':Int→Option Sp)(f t:Int):Prop where
 dom:∀l,(D' l).isSome=if l=t then true else(D l).isSome
 rd:∀(U:Nat→Nat→Int) l r y,r<1024→y<32→ou D' U l r y=if l=t then ou D U f r y else ou D U l r y
theorem dK.afP(h:dK W0 w J q c D T Qu Lb G rg)(f t:Int)(h0:yS G Lb f t=0)(hf:(G f).isSome=true)(hl:(aZ Lb f:Int)≤aS Lb t):Calls Tryz.prog 43 #[.pointer (some ⟨J.I.ss,0,none⟩), .int .i64 f, .int .i64 t] w fun e w'=>e= .returned (.int .i64 0)∧(∃c' D' s,dK W0 w' J q c' D' T Qu (aF Lb t (aZ Lb f:Int)) (dn G t s) rg∧Yr D D' f t∧c'<c)∧KeepP w w':=by
 obtain⟨p,hG⟩:=Option.isSome_iff_exists.1 hf
 obtain⟨fm,kw,Q,V,h1,h2⟩:=h.Mk
 obtain⟨K,hD⟩:=h1.bl.TG hG
 have hu:aZ Lb f=cO K:=by have:=h1.j.ko f;rw[hD]at this;simpa[fI,ig]using this
 refine(h1.fork f t h0 hG hD).mono ?_
 rw[←hu]
 rintro e w' (⟨hlt,_⟩|⟨_,rfl,hk,_,_,s,c',D',Q',_,hs,hd,hc⟩)
 ·exact absurd hlt (by omega)
 ·exact⟨rfl,⟨c',D',s,h2 hs hk,⟨hd.dom,fun U l r y hr _=>hd.rd U l r y hr⟩,hc⟩,KeepP.of hk⟩
theorem dK.tree(h:dK W0 w J q c D T Qu Lb G rg):Tree (q:Int) Lb:=by
 obtain⟨fm,kw,Q,V,h1,_⟩:=h.Mk
 exact h1.j.tree
theorem dK.find(h:dK W0 w J q c D T Qu Lb G rg)(p:Int)(hi:I64 p)(may:Bool):Calls Tryz.prog 49 #[Gx J, .int .i64 p, .bool may] w fun e w'=>e= .returned (.tuple #[.agg (rP (lN T p may)), .int .i64 (fA T p may)])∧Below w.heap.size w w':=by
 obtain⟨m,P,h1,_⟩:=h.byT
 exact Yk h1 p hi may
end
end Go.Proofs.YtammlljefhakmaaGreatDoor
namespace Go.Proofs.YtammlljefhakmaaGreatDoor
open Go.RowKit Go.Maps
set_option maxRecDepth 100000
structure dY(W0 w:World)(J:mE)(q c:Nat)(D:Int→Option Sp)(T:List Nd)(Qu:List Int)(Lb:List Nd)(G:Int→Option Pc)(rg:Int→Nat→Int):Prop where
 pc:dK W0 w J q c D T Qu Lb G rg
 fit:jN J.n T Qu Lb G
 box:w.heap[J.ps]? =some (.cells (gV J) 39 (0,0))
def dF(n:Int)(T Lb:List Nd)(p quota needs:Int):Int:=if fA T p (mO quota)≠0 then fA T p (mO quota)else if eT T p≠1 then 9 else if aS Lb p<quota∨quota<needs then 3 else l6 n T p
def tY(e:Int)(T:List Nd):Int:=if e=0 then aG 1 T else 0
theorem DC{e:Int}{T:List Nd}(h:e≠0):tY e T=0:=if_neg h
theorem yY{e:Int}{T:List Nd}(h:e=0):tY e T=aG 1 T:=if_pos h
theorem Un{w:World}{b:Nat}{o0 o1 o2 o3:Value}{t:TypeId}(a0 a1 a2 a3:Value)(h:w.heap[b]? =some (.cells #[o0,o1,o2,o3] t (0,0))):((((w.setCell ⟨b,0,none⟩ a0).setCell ⟨b,1,none⟩ a1).setCell ⟨b,2,none⟩ a2).setCell ⟨b,3,none⟩ a3).heap[b]? =some (.cells #[a0,a1,a2,a3] t (0,0)):=by
 have h1:=heap_setCell_same w b 0 _ _ a0 h
 have h2:=heap_setCell_same _ b 1 _ _ a1 h1
 have h3:=heap_setCell_same _ b 2 _ _ a2 h2
 have h4:=heap_setCell_same _ b 3 _ _ a3 h3
 simpa using h4
theorem DF{B:Nat}{a w:World}{b:Nat}(a0 a1 a2 a3:Value)(h:Below B a w)(hb:B≤b):Below B a ((((w.setCell ⟨b,0,none⟩ a0).setCell ⟨b,1,none⟩ a1).setCell ⟨b,2,none⟩ a2).setCell ⟨b,3,none⟩ a3):=
 (((h.setCell (p:=⟨b,0,none⟩) hb _).setCell (p:=⟨b,1,none⟩) hb _).setCell (p:=⟨b,2,none⟩) hb _).setCell (p:=⟨b,3,none⟩) hb _
abbrev yZ:Obj:= .cells #[.int .i64 0, .int .i64 0, .int .i64 0, .int .u32 0] 76 (0,0)
section
variable {W0 w:World} {J:mE} {q c:Nat} {D:Int→Option Sp} {T:List Nd} {Qu:List Int} {Lb:List Nd} {G:Int→Option Pc} {rg:Int→Nat→Int}
theorem dY.step{w':World}(h:dY W0 w J q c D T Qu Lb G rg)(hb:Below w.heap.size w w'):dY W0 w' J q c D T Qu Lb G rg:=⟨h.pc.step hb,h.fit,below_block hb h.box⟩
theorem tZ{p:Int}{may:Bool}(h:fA T p may=0):may=true∧∃x,aD p T=some x∧lN T p may=x:=by
 have h0:=h
 unfold fA at h
 split at h
 ·rename_i hm
  split at h
  ·cases h
  ·rename_i x hx
   refine⟨hm,x,hx,?_⟩
   unfold lN
   rw[if_pos h0]
   unfold JE
   rw[hx];rfl
 ·cases h
theorem uf{x:Int}:mO x=true↔1≤x∧x≤256:=by unfold mO;simp
theorem jN.born{n:Int}(h:jN n T Qu Lb G){p quota:Int}(h1:eT T p=1)(hq:1≤quota∧quota≤256)(hl:quota≤aS Lb p)(ha:l6 n T p=0):jc Lb (aG 1 T) p quota=0∧pJ Qu (aG 1 T)=0∧jS Qu (aG 1 T)=Qu++[aG 1 T]∧(1≤aG 1 T∧aG 1 T≤8)∧(1≤p∧p≤8)∧aD (aG 1 T) Lb=none∧G (aG 1 T)=none∧(G p).isSome=true∧(aD p Lb).isSome=true:=by
 obtain⟨s0,s1,s2,_⟩:=xD h.good ha
 have h8:=h.good.most.2
 have hlp:dh T p:=Or.inl h1
 have hpn:=hlp.num h.good
 have hnl:¬dh T (aG 1 T):=fun hh=>by unfold dh at hh;omega
 have e1:aD (aG 1 T) Lb=none:=by
  cases hx:aD (aG 1 T) Lb with
  |none=>rfl
  |some x=>exact absurd ((h.con _).1 (by rw[hx];rfl)) hnl
 have e2:G (aG 1 T)=none:=by
  cases hx:G (aG 1 T)with
  |none=>rfl
  |some x=>exact absurd ((h.iK _).1 (by rw[hx];rfl)) hnl
 have hp:=(h.con p).2 hlp
 have hnq:aG 1 T∉Qu:=fun hh=>by have:=(h.row _).1 hh;omega
 have hv:pI (aG 1 T)=true:=xE s1 h8
 refine⟨jO.2 ⟨⟨bN.2 (by omega),bN.2 (by omega)⟩,Option.isSome_iff_exists.1 hp,e1,hl⟩,?_,?_,by omega,by omega,e1,e2,(h.iK p).2 hlp,hp⟩
 ·unfold pJ;rw[if_pos hv,if_neg hnq]
 ·unfold jS;rw[if_pos hv,if_neg hnq]
set_option maxHeartbeats 4000000 in
theorem dY.bear(h:dY W0 w J q c D T Qu Lb G rg){p quota needs:Int}(hi:I64 p){k:Nat}{caps:Array Value}(hent:∀(args:Array Value) (W:World),(callFunc k args).run Tryz.prog W= .ok (.enter k args) W){R:Nat→(Int→Option Sp)→(Int→Option Pc)→List Nd→(Int→Nat→Int)→Prop}
  (BG:dF J.n T Lb p quota needs=0→∀V,KeepP w V→dK W0 V J q c D (jd J.n T p) Qu (dx Lb (aG 1 T) p quota) G rg→Calls Tryz.prog k (#[.int .i64 (aG 1 T)]++caps) V fun e w'=>e= .returned (.int .i64 0)∧KeepP V w'∧∃c' D' G' dO kS,dK W0 w' J q c' D' (jd J.n T p) Qu dO G' kS∧R c' D' G' dO kS)
  (hR:∀c' D' G' dO kS,R c' D' G' dO kS→(∀i,(aD i dO).isSome=true↔(aD i Lb).isSome=true∨i=aG 1 T)∧∀i,(G' i).isSome=true↔(G i).isSome=true∨i=aG 1 T):
  Calls Tryz.prog 40 #[Gx J, .int .i64 p, .int .i64 quota, .int .i64 needs, .func (.func k) #[] caps] w fun e w'=>e= .returned (.tuple #[.int .i64 (tY (dF J.n T Lb p quota needs) T), .int .i64 (dF J.n T Lb p quota needs)])∧KeepP w w'∧((dF J.n T Lb p quota needs≠0∧dY W0 w' J q c D T Qu Lb G rg)∨(dF J.n T Lb p quota needs=0∧∃c' D' G' dO kS,dY W0 w' J q c' D' (jd J.n T p) (Qu++[aG 1 T]) dO G' kS∧R c' D' G' dO kS)):=by
 obtain⟨be,hbe⟩:∃be,be=dF J.n T Lb p quota needs:=⟨_,rfl⟩
 have BE:=Lib.hid hbe
 rw[←hbe]at BG ⊢
 have BGH:=Lib.hid BG
 have HR:=Lib.hid hR
 clear hR hbe BG
 obtain⟨w1,hw1⟩:∃w1,w1=w.alloc (.cells (gV J) 37):=⟨_,rfl⟩
 have X1:Hid (w1.heap[w.heap.size]? =some (.cells (gV J) 37 (0,0))):=Lib.hid (by rw[hw1];exact heap_alloc_new w _)
 have B1:Hid (Below w.heap.size w w1):=Lib.hid (by rw[hw1];exact Below.alloc (Below.refl w.heap.size w) (Nat.le_refl _) _)
 have FI:=Lib.hid (fun V (hb:Below w.heap.size w V)=>(h.pc.step hb).find p hi (mO quota))
 have IQ:=Lib.hid (fun V=>jM quota V rfl)
 have LC:=Lib.hid (fun V (hb:Below w1.heap.size w1 V)=>dA (below_block hb X1.out))
 obtain⟨er,her⟩:∃er,er=fA T p (mO quota):=⟨_,rfl⟩
 obtain⟨x,hx⟩:∃x,x=lN T p (mO quota):=⟨_,rfl⟩
 rw[←her,←hx]at FI
 have HX:=Lib.hid (And.intro her hx)
 have H:=Lib.hid h
 obtain⟨qb,hqb⟩:∃qb,qb=mO quota:=⟨_,rfl⟩
 rw[←hqb]at FI IQ
 clear her hx h hqb
 obtain⟨x0,x1,x2,x3⟩:=x
 have FI:Hid (∀V,Below w.heap.size w V→Calls Tryz.prog 49 #[.agg #[.pointer (some ⟨J.tb,0,none⟩), .pointer (some ⟨J.I.X.mp,0,none⟩), .int .i64 (J.tr:Int), .pointer (some ⟨J.I.bb,0,none⟩), .pointer (some ⟨J.I.ss,0,none⟩), .pointer (some ⟨J.qb,0,none⟩)], .int .i64 p, .bool qb] V fun e w'=>e= .returned (.tuple #[.agg #[.int .i64 x0, .int .i64 x1, .int .i64 x2, .int .u32 x3], .int .i64 er])∧Below V.heap.size V w'):=FI
 go_enter Tryz.func40,Tryz.ntmps40
 go_wp2_with fail
 rw[←hw1]
 clear hw1
 obtain⟨c0,c1,c2,c3,c4,c5⟩:=LC.out w1 (Below.refl _ _)
 go_cut [12,13] (fun v12 v13 wx=>∃b,v12= .pointer (some ⟨b,0,none⟩)∧v13= .int .i64 er∧wx.heap[b]? =some (.cells #[.int .i64 x0, .int .i64 x1, .int .i64 x2, .int .u32 x3] 76 (0,0))∧Below w1.heap.size w1 wx)
 case first=>
  go_region_held3 (fun V=>V.cell? ⟨w.heap.size,0,none⟩=some (.pointer (some ⟨J.tb,0,none⟩))∧V.cell? ⟨w.heap.size,1,none⟩=some (.pointer (some ⟨J.I.X.mp,0,none⟩))∧V.cell? ⟨w.heap.size,2,none⟩=some (.int .i64 (J.tr:Int))∧V.cell? ⟨w.heap.size,3,none⟩=some (.pointer (some ⟨J.I.bb,0,none⟩))∧V.cell? ⟨w.heap.size,4,none⟩=some (.pointer (some ⟨J.I.ss,0,none⟩))∧V.cell? ⟨w.heap.size,5,none⟩=some (.pointer (some ⟨J.qb,0,none⟩))) (first
    |with_reducible exact LC.out w9 B9.out
    |with_reducible exact LC.out _ (Below.refl _ _).drew
    |with_reducible exact LC.out _ ((Below.refl _ _).alloc (Nat.le_refl _) _).drew
    |with_reducible exact LC.out _ (B9.out.alloc B9.out.size _)
    |with_reducible exact LC.out _ UJ.out)
   (first
    |((go_at_call 68;with_reducible refine(IQ.out _).mono ?_);rintro e w2 ⟨rfl,rfl⟩)
    |((go_at_call 49;with_reducible refine(FI.out w1.drew (B1.out.trans ((Below.refl _ _).drew.mono B1.out.size))).mono ?_);rintro e w9 ⟨rfl,hb⟩;have B9:Hid (Below w1.heap.size w1 w9):=Lib.hid ((Below.refl _ _).drew.trans hb);clear hb)
    |((go_at_call 49;with_reducible refine(FI.out (w1.alloc yZ).drew (B1.out.trans (((Below.refl w1.heap.size w1).alloc (Nat.le_refl _) _).drew.mono B1.out.size))).mono ?_);rintro e w9 ⟨rfl,hb⟩;have B9:Hid (Below w1.heap.size w1 w9):=Lib.hid (((Below.refl w1.heap.size w1).alloc (Nat.le_refl _) yZ).drew.trans (hb.mono ((Below.refl w1.heap.size w1).alloc (Nat.le_refl _) yZ).drew.size));have E9:Hid (w9.heap[w1.heap.size]? =some yZ):=Lib.hid (below_block hb (heap_alloc_new w1 _));have f0:=frozen_of_row _ w1.heap.size 0 _ _ E9.out;have f1:=frozen_of_row _ w1.heap.size 1 _ _ E9.out;have f2:=frozen_of_row _ w1.heap.size 2 _ _ E9.out;have f3:=frozen_of_row _ w1.heap.size 3 _ _ E9.out;have UJ:=Lib.hid (DF (.int .i64 x0) (.int .i64 x1) (.int .i64 x2) (.int .u32 x3) B9.out (Nat.le_refl _));obtain⟨e0,e1,e2,e3, -⟩:=D9 E9.out;clear hb))
  all_goals
   go_wp2_with fail
   go_meet
   case rel=>first|exact⟨_,rfl,rfl,Un _ _ _ _ E9.out,UJ.out⟩|exact⟨_,rfl,rfl,heap_alloc_new w9 _,B9.out.alloc B9.out.size _⟩
 case rest=>
  obtain⟨b,rfl,rfl,hx,hb⟩:=hcut
  obtain⟨w2,hw2⟩:∃w2,w2=wc:=⟨_,rfl⟩
  rw[←hw2]at hx hb ⊢
  clear hw2 c0 c1 c2 c3 c4 c5
  have B2:=Lib.hid (B1.out.trans (hb.mono B1.out.size))
  obtain⟨-, -,x2', -, -⟩:=D9 hx
  have X2:=Lib.hid (below_block hb X1.out)
  have H2:=Lib.hid (H.out.step B2.out)
  have K2:=Lib.hid (KeepP.below B2.out)
  obtain⟨c0,c1,c2,c3,c4,c5⟩:=dA X2.out
  clear hx hb
  by_cases h0:er=0
  ·subst h0
   obtain⟨hqb,y,hy,hxy⟩:=tZ HX.out.1.symm
   have hst:eT T p=x2:=by rw[iY hy,←hxy,←HX.out.2]
   have QB:=Lib.hid (uf.1 hqb)
   have ST:=Lib.hid hst
   clear hqb hy hxy hst
   by_cases h1:x2=1
   ·subst h1
    have LF:=Lib.hid (H2.out.pc.abO p rfl)
    obtain⟨lf,hlf⟩:∃lf,lf=aS Lb p:=⟨_,rfl⟩
    have Zh:=Lib.hid hlf
    rw[←hlf]at LF
    clear hlf
    by_cases hf:lf<quota∨quota<needs
    ·have e1:be=3:=by rw[BE.out];unfold dF;rw[if_neg (by rw[←HX.out.1];decide),if_neg (by rw[ST.out];decide),if_pos (by rw[←Zh.out];exact hf)]
     have hf':decide (lf<quota)=true∨decide (lf<quota)=false∧decide (quota<needs)=true:=by
      by_cases hx:lf<quota
      ·exact Or.inl (decide_eq_true hx)
      ·exact Or.inr ⟨decide_eq_false hx,decide_eq_true (hf.resolve_left hx)⟩
     clear hf
     rcases hf' with d1|⟨d1,d2⟩
     all_goals
      go_wp2_with fail
      refine LF.out.mono ?_
      rintro e w3 ⟨rfl,hb⟩
      have H3:=Lib.hid (H2.out.step hb)
      have K3:=Lib.hid (K2.out.trans (KeepP.below hb))
      clear hb
      go_wp2_with fail
      go_ret2
      exact⟨by rw[e1];rfl,K3.out,Or.inl ⟨by rw[e1];decide,H3.out⟩⟩
    ·have d1:decide (lf<quota)=false:=decide_eq_false fun hx=>hf (Or.inl hx)
     have d2:decide (quota<needs)=false:=decide_eq_false fun hx=>hf (Or.inr hx)
     have e0:be=l6 J.n T p:=by rw[BE.out];unfold dF;rw[if_neg (by rw[←HX.out.1];decide),if_neg (by rw[ST.out];decide),if_neg (by rw[←Zh.out];exact hf)]
     have HLQ:Hid (quota≤aS Lb p):=Lib.hid (by rw[←Zh.out];have:¬lf<quota:=fun hx=>hf (Or.inl hx);omega)
     clear hf
     go_wp2_with fail
     refine LF.out.mono ?_
     rintro e w3 ⟨rfl,hb⟩
     have H3:=Lib.hid (H2.out.step hb)
     have X3:=Lib.hid (below_block hb X2.out)
     have K3:=Lib.hid (KeepP.below (B2.out.trans (hb.mono B2.out.size)))
     clear hb c0 c1 c2 c3 c4 c5
     obtain⟨c0, -, -, -, -, -⟩:=dA X3.out
     go_wp2_with fail
     refine(H3.out.pc.add p hi).mono ?_
     rintro e w4 ⟨rfl,h4,hk4⟩
     have X4:=Lib.hid (hk4.box X3.out (by decide))
     have K4:=Lib.hid (K3.out.trans hk4)
     have BX:=Lib.hid (hk4.box H3.out.box (by decide))
     have P4:=Lib.hid h4
     clear h4 hk4 c0
     rw[←e0]
     by_cases hz:be=0
     ·have ha:l6 J.n T p=0:=by rw[←e0,hz]
      have BR:=Lib.hid (H.out.fit.born (by rw[ST.out]) QB.out HLQ.out ha)
      have eP:wF J.n T p=aG 1 T:=by unfold wF;rw[if_pos ha]
      rw[eP,hz]
      have BZ:=Lib.hid (BGH.out hz)
      have HA:=Lib.hid ha
      obtain⟨ch,hch⟩:∃ch,ch=aG 1 T:=⟨_,rfl⟩
      have CH:=Lib.hid hch
      rw[←hch]at BZ BR ⊢
      have CV:=Lib.hid (P4.out.Ld ch p quota)
      rw[BR.out.1]at CV
      obtain⟨-, -, -,c3, -, -⟩:=dA X4.out
      have HZ:=Lib.hid hz
      clear eP ha hch e0 hz
      go_wp2_with fail
      refine CV.out.mono ?_
      rintro e w5 ⟨rfl,h5,hk5⟩
      have K5:=Lib.hid (K4.out.trans hk5)
      have X5:=Lib.hid (hk5.box X4.out (by decide))
      have CB:=Lib.hid (BZ.out w5 K5.out h5)
      have BX5:=Lib.hid (hk5.box BX.out (by decide))
      clear h5 hk5 c3
      go_wp2_with fail
      refine CB.out.mono ?_
      rintro e w6 ⟨rfl,DU,c',D',G',dO,kS,h6,hr⟩
      have P6:=Lib.hid h6
      have K6:=Lib.hid (K5.out.trans DU)
      have R6:=Lib.hid hr
      have X6:=Lib.hid (DU.box X5.out (by decide))
      have BX6:=Lib.hid (DU.box BX5.out (by decide))
      have PU:=Lib.hid (P6.out.push ch)
      rw[BR.out.2.1,BR.out.2.2.1]at PU
      obtain⟨-, -, -, -, -,c5⟩:=dA X6.out
      clear DU h6 hr
      go_wp2_with fail
      refine PU.out.mono ?_
      rintro e w7 ⟨rfl,h7,hk7⟩
      have P7:=Lib.hid h7
      have K7:=Lib.hid (K6.out.trans hk7)
      have BX7:=Lib.hid (hk7.box BX6.out (by decide))
      clear h7 hk7 c5
      go_wp2_with fail
      go_ret2
      obtain⟨hL,hG⟩:=HR.out _ _ _ _ _ R6.out
      refine⟨by rw[yY HZ.out,←CH.out,HZ.out];rfl,K7.out,Or.inr ⟨HZ.out,c',D',G',dO,kS,⟨by rw[←CH.out];exact P7.out,?_,BX7.out⟩,R6.out⟩⟩
      exact H.out.fit.add HA.out hL hG
     ·have e1:wF J.n T p=0:=by unfold wF;rw[if_neg (by rw[←e0];exact hz)]
      have e2:jd J.n T p=T:=by unfold jd;rw[if_neg (by rw[←e0];exact hz)]
      rw[e1]
      have P5:Hid (dY W0 w4 J q c D T Qu Lb G rg):=Lib.hid ⟨by have:=P4.out;rwa [e2]at this,H.out.fit,BX.out⟩
      have d3:(be !=0)=true:=by simpa using hz
      clear e0 e1 e2
      go_wp2_with fail
      go_ret2
      exact⟨by rw[DC hz];rfl,K4.out,Or.inl ⟨hz,P5.out⟩⟩
   ·have e1:be=9:=by rw[BE.out];unfold dF;rw[if_neg (by rw[←HX.out.1];decide),if_pos (by rw[ST.out];exact h1)]
    have d1:(x2 !=1)=true:=by simpa using h1
    go_wp2_with fail
    go_ret2
    exact⟨by rw[e1];rfl,K2.out,Or.inl ⟨by rw[e1];decide,H2.out⟩⟩
  ·have e1:be=er:=by rw[BE.out];unfold dF;rw[if_pos (by rw[←HX.out.1];exact h0),←HX.out.1]
   have d1:(er !=0)=true:=by simpa using h0
   go_wp2_with fail
   go_ret2
   exact⟨by rw[DC (by rw[e1];exact h0),e1];rfl,K2.out,Or.inl ⟨by rw[e1];exact h0,H2.out⟩⟩
end
end Go.Proofs.YtammlljefhakmaaGreatDoor
