/- Helps of the proof. No condition. -/
import Derived.Test.YtammlljefhakmaaGreatDoorGP
namespace Go.Proofs.YtammlljefhakmaaGreatDoor
open Go.RowKit
set_option maxRecDepth 100000
structure bT(n lo hi:Nat)(L:List Int)(R:Nat→Nat)(S:Nat→Bool)(W:Nat→Option Sp)(O:Own):Prop where
 len:L.length=n*32
 nm:lo<hi∧hi≤n
 top:n≤1024
 sp:∀r:Nat,S r=(W r).isSome
 root:∀(r:Nat) (F:Sp),W r=some F→(lo≤r∧r<hi)∧O r=some (r,none)
 yes:∀(r:Nat) (F:Sp) (i:Nat),W r=some F→i<32→hasB F i=true→∃g:Nat,(lo≤g∧g<hi)∧O g=some (r,some i)∧dQ n L (r:Int) (i:Int)=some (true,false,false,(g:Int))∧∀j:Nat,j<32→dQ n L (g:Int) (j:Int)=some (F (32*i+j))
 no:∀(r:Nat) (F:Sp) (i:Nat),W r=some F→i<32→hasB F i=false→dQ n L (r:Int) (i:Int)=some z0
 fit:∀(r:Nat) (F:Sp) (p:Nat),W r=some F→F p=z0∨mO n (F p)
 held:∀f:Nat,(O f).isSome=true→R f=1
 low:∀f:Nat,(O f).isSome→(lo≤f∧f<hi)
def QF(R:Nat→Nat)(O:Own)(f:Nat):Nat:=if(O f).isSome=true then 0 else R f
structure dA(n hi:Nat)(L:List Int)(R:Nat→Nat)(O:Own)(L':List Int)(R':Nat→Nat)(O':Own):Prop where
 ref:∀f,QF R' O' f=QF R O f
 word:∀f q,f<n→q<32→QF R O f≠0∨hi≤f→L'.getD (f*32+q) 0=L.getD (f*32+q) 0
theorem dA.refl{hi:Nat}(n:Nat)(L:List Int)(R:Nat→Nat)(O:Own):dA n hi L R O L R O:=⟨fun _=>rfl,fun _ _ _ _ _=>rfl⟩
theorem dA.trans{n hi:Nat}{L L' L2:List Int}{R R' R2:Nat→Nat}{O O' O2:Own}(h:dA n hi L R O L' R' O')(k:dA n hi L' R' O' L2 R2 O2):dA n hi L R O L2 R2 O2:=
 ⟨fun f=>(k.ref f).trans (h.ref f),fun f q hf hq h0=>(k.word f q hf hq (by rw[h.ref];exact h0)).trans (h.word f q hf hq h0)⟩
theorem dA.put{n hi:Nat}{L:List Int}{R:Nat→Nat}{O:Own}{g q:Nat}{e:fT}(hl:L.length=n*32)(hg:(g<n∧g<hi)∧q<32)(ho:(O g).isSome=true):dA n hi L R O (kH L g q e) R O:=
 ⟨fun _=>rfl,fun f q' hf hq h0=>by
  have hne:f≠g:=by
   rintro rfl
   rcases h0 with h0|h0
   ·unfold QF at h0;rw[if_pos ho]at h0;exact h0 rfl
   ·omega
  rw[kH,lG _ _ _ _ (by rw[hl];omega),if_neg (by omega)]⟩
theorem dA.take{n hi:Nat}{L:List Int}{R:Nat→Nat}{O:Own}{x:Nat}(hl:L.length=n*32)(hx:x<n∧x<hi)(h0:R x=0)(ho:O x=none)(v:Nat×Option Nat):dA n hi L R O (putRow L x zeros) (upd R x 1) (j6 O x (some v)):=
  ⟨fun f=>by
    unfold QF
    by_cases e:f=x
    · subst e;rw[aP,ho,h0];rfl
    · rw[au _ _ _ _ e,aC _ _ _ _ e],
   fun f q hf hq hQ=>by
    have hne:f≠x:=by
      rintro rfl
      rcases hQ with hQ|hQ
      · unfold QF at hQ;rw[ho,h0]at hQ;exact hQ rfl
      · omega
    rw[nV _ _ _ (by rw[hl];omega),if_neg (by omega)]⟩
theorem dA.drop{n hi:Nat}{L:List Int}{R:Nat→Nat}{O:Own}{g:Nat}(ho:(O g).isSome=true):dA n hi L R O L (upd R g 0) (j6 O g none):=
 ⟨fun f=>by
  unfold QF
  by_cases e:f=g
  ·subst e;rw[aP,upd_same,if_pos ho];rfl
  ·rw[au _ _ _ _ e,aC _ _ _ _ e],fun _ _ _ _ _=>rfl⟩
theorem bT.find{n lo hi:Nat}{L:List Int}{R:Nat→Nat}{S:Nat→Bool}{W:Nat→Option Sp}{O:Own}(h:bT n lo hi L R S W O){r:Nat}{F:Sp}(hr:W r=some F)(p:Nat)(hp:p<1024):
  (hasB F (p/32)=true∧∃g:Nat,(lo≤g∧g<hi)∧O g=some (r,some (p/32))∧dQ n L (r:Int) ((p/32:Nat):Int)=some (true,false,false,(g:Int))∧dD n L (r:Int) (p:Int)=((true,false,false,(g:Int)),F p))∨(hasB F (p/32)=false∧F p=z0∧dD n L (r:Int) (p:Int)=(z0,z0)):=by
 have e1:(p:Int)/32=((p/32:Nat):Int):=by omega
 have e2:(p:Int)%32=((p%32:Nat):Int):=by omega
 cases hh:hasB F (p/32)with
 |true=>
  obtain⟨g,hg,ho,h1,h2⟩:=h.yes r F (p/32) hr (by omega) hh
  refine Or.inl ⟨rfl,g,hg,ho,h1,?_⟩
  have h3:=h2 (p%32) (by omega)
  rw[show 32*(p/32)+p%32=p by omega]at h3
  unfold dD
  rw[e1,e2,fD h1,if_pos rfl]
  rw[fD h3]
 | false=>
  have h1:=h.no r F (p/32) hr (by omega) hh
  refine Or.inr ⟨rfl,?_,?_⟩
  ·rcases h.fit r F p hr with hz|hf
   ·exact hz
   ·have:=ZH hf.1;rw[hh]at this;cases this
  ·unfold dD
   rw[e1,fD h1,if_neg (by decide)]
theorem bT.Pj{n lo hi:Nat}{L:List Int}{R:Nat→Nat}{S:Nat→Bool}{W:Nat→Option Sp}{O:Own}(h:bT n lo hi L R S W O){r:Nat}{F:Sp}(hr:W r=some F)(p:Nat)(hp:p<1024):(dD n L (r:Int) (p:Int)).2=F p:=by
 rcases h.find hr p hp with⟨_,g,_,_,_,e⟩|⟨_,hz,e⟩
 ·rw[e]
 ·rw[e,hz]
theorem bT.free{n lo hi:Nat}{L:List Int}{R:Nat→Nat}{S:Nat→Bool}{W:Nat→Option Sp}{O:Own}(h:bT n lo hi L R S W O){x:Nat}(h0:R x=0):O x=none:=by
 cases ho:O x with
 |none=>rfl
 |some v=>have:=h.held x (by rw[ho];rfl);omega
theorem bT.pos{n lo hi:Nat}{L:List Int}{R:Nat→Nat}{S:Nat→Bool}{W:Nat→Option Sp}{O:Own}(h:bT n lo hi L R S W O):0<n:=by have:=h.nm;omega
theorem bT.open_{n lo hi:Nat}{L:List Int}{R:Nat→Nat}{S:Nat→Bool}{W:Nat→Option Sp}{O:Own}(h:bT n lo hi L R S W O){x:Nat}(hx:(lo≤x∧x<hi))(h0:R x=0):
  bT n lo hi (putRow L x zeros) (upd R x 1) (p9 S x true) (j6 W x (some fun _=>z0)) (j6 O x (some (x,none)))∧W x=none:=by
 have ho:=h.free h0
 have hn:=h.nm
 have hw:W x=none:=by
  cases hw:W x with
  |none=>rfl
  |some F=>have:=(h.root x F hw).2;rw[ho]at this;cases this
 have hz:∀i,hasB (fun _=>z0) i=false:=fun i=>by
  cases hh:hasB (fun _=>z0) i with
  |false=>rfl
  |true=>obtain⟨j,_,hj⟩:=(jr _ _).1 hh;cases hj
 refine⟨⟨gP h.len (by omega) (by decide),hn,h.top,fun r=>?_,fun r F hr=>?_,fun r F i hr hi hh=>?_,fun r F i hr hi hh=>?_,fun r F p hr=>?_,fun f=>?_,fun f hf=>?_⟩,hw⟩
 ·unfold p9 j6
  split
  ·rfl
  ·exact h.sp r
 ·by_cases e:r=x
  ·subst e;exact⟨hx,aP _ _ _⟩
  ·rw[au _ _ _ _ e]at hr
   rw[au _ _ _ _ e]
   exact h.root r F hr
 ·by_cases e:r=x
  ·subst e;rw[aP]at hr;cases hr;rw[hz]at hh;cases hh
  ·rw[au _ _ _ _ e]at hr
   obtain⟨g,hg,hog,h1,h2⟩:=h.yes r F i hr hi hh
   have hgx:g≠x:=by rintro rfl;rw[ho]at hog;cases hog
   have hrm:=(h.root r F hr).1
   refine⟨g,hg,by rw[au _ _ _ _ hgx];exact hog,by rw[jB h.len (by omega) (by omega) hi e];exact h1,fun j hj=>by rw[jB h.len (by omega) (by omega) hj hgx];exact h2 j hj⟩
 ·by_cases e:r=x
  ·subst e;exact sV h.len (by omega) hi
  ·rw[au _ _ _ _ e]at hr
   have hrm:=(h.root r F hr).1
   rw[jB h.len (by omega) (by omega) hi e]
   exact h.no r F i hr hi hh
 ·by_cases e:r=x
  ·subst e;rw[aP]at hr;cases hr;exact Or.inl rfl
  ·rw[au _ _ _ _ e]at hr
   exact h.fit r F p hr
 ·intro hf
  by_cases e:f=x
  ·subst e;exact upd_same _ _ _
  ·rw[au _ _ _ _ e]at hf;rw[aC _ _ _ _ e];exact h.held f hf
 ·by_cases e:f=x
  ·subst e;exact hx
  ·rw[au _ _ _ _ e]at hf;exact h.low f hf
theorem bT.page{n lo hi:Nat}{L:List Int}{R:Nat→Nat}{S:Nat→Bool}{W:Nat→Option Sp}{O:Own}(h:bT n lo hi L R S W O){r:Nat}{F:Sp}(hr:W r=some F){p g:Nat}(hp:p<1024)(hg:(lo≤g∧g<hi))(hog:O g=some (r,some (p/32)))(hent:dQ n L (r:Int) ((p/32:Nat):Int)=some (true,false,false,(g:Int)))(hh:hasB F (p/32)=true){e:fT}(he:e=z0∨mO n e)(hh':hasB (aH F p e) (p/32)=true):
  bT n lo hi (kH L g (p%32) e) R S (j6 W r (some (aH F p e))) O:=by
 have hn:=h.nm
 obtain⟨ok,hlo⟩:=Il h.pos he
 obtain⟨hrm,hor⟩:=h.root r F hr
 have hrg:r≠g:=by rintro rfl;rw[hor]at hog;cases hog
 obtain⟨g2,hg2,aeK,h1,h2⟩:=h.yes r F (p/32) hr (by omega) hh
 have far:∀f q:Nat,(lo≤f∧f<hi)→q<32→f≠g→dQ n (kH L g (p%32) e) (f:Int) (q:Int)=dQ n L (f:Int) (q:Int):=fun f q hf hq hne=>bQ h.len (by omega) (by omega) (by omega) hq (Or.inl hne)
 refine⟨by rw[iI];exact h.len,hn,h.top,fun r'=>?_,fun r' F' hr'=>?_,fun r' F' i hr' hi hhi=>?_,fun r' F' i hr' hi hhi=>?_,fun r' F' p' hr'=>?_,h.held,h.low⟩
 ·rw[h.sp r']
  by_cases e':r'=r
  ·subst e';rw[aP,hr];rfl
  ·rw[au _ _ _ _ e']
 ·by_cases e':r'=r
  ·subst e';exact⟨hrm,hor⟩
  ·rw[au _ _ _ _ e']at hr';exact h.root r' F' hr'
 ·by_cases e':r'=r
  ·subst e'
   rw[aP]at hr'
   cases hr'
   by_cases ei:i=p/32
   ·subst ei
    obtain rfl:g2=g:=by rw[hent]at h1;simp at h1;omega
    refine⟨g2,hg2,aeK,by rw[far _ _ hrm hi hrg];exact h1,fun j hj=>?_⟩
    by_cases ej:j=p%32
    ·rw[ej,iJ h.len (by omega) (by omega) ok hlo,show 32*(p/32)+p%32=p by omega,aD]
    ·rw[bQ h.len (by omega) (by omega) (by omega) hj (Or.inr ej),aA _ _ _ _ (by omega)]
     exact h2 j hj
   ·rw[nW _ _ _ _ ei]at hhi
    obtain⟨g',hg',iK,k1,k2⟩:=h.yes r' F i hr hi hhi
    have hgg:g'≠g:=by rintro rfl;rw[hog]at iK;cases iK;exact ei rfl
    exact⟨g',hg',iK,by rw[far _ _ hrm hi hrg];exact k1,fun j hj=>by rw[far _ _ hg' hj hgg,aA _ _ _ _ (by omega)];exact k2 j hj⟩
  ·rw[au _ _ _ _ e']at hr'
   obtain⟨g',hg',iK,k1,k2⟩:=h.yes r' F' i hr' hi hhi
   have hgg:g'≠g:=by rintro rfl;rw[hog]at iK;cases iK;exact e' rfl
   obtain⟨Cg,Ch⟩:=h.root r' F' hr'
   have Nz:r'≠g:=by rintro rfl;rw[Ch]at hog;cases hog
   exact⟨g',hg',iK,by rw[far _ _ Cg hi Nz];exact k1,fun j hj=>by rw[far _ _ hg' hj hgg];exact k2 j hj⟩
 ·by_cases e':r'=r
  ·subst e'
   rw[aP]at hr'
   cases hr'
   by_cases ei:i=p/32
   ·subst ei;rw[hh']at hhi;cases hhi
   ·rw[nW _ _ _ _ ei]at hhi
    rw[far _ _ hrm hi hrg]
    exact h.no r' F i hr hi hhi
  ·rw[au _ _ _ _ e']at hr'
   obtain⟨Cg,Ch⟩:=h.root r' F' hr'
   have Nz:r'≠g:=by rintro rfl;rw[Ch]at hog;cases hog
   rw[far _ _ Cg hi Nz]
   exact h.no r' F' i hr' hi hhi
 ·by_cases e':r'=r
  ·subst e'
   rw[aP]at hr'
   cases hr'
   by_cases ep:p'=p
   ·subst ep;rw[aD];exact he
   ·rw[aA _ _ _ _ ep];exact h.fit r' F p' hr
  ·rw[au _ _ _ _ e']at hr';exact h.fit r' F' p' hr'
theorem bT.fresh{n lo hi:Nat}{L:List Int}{R:Nat→Nat}{S:Nat→Bool}{W:Nat→Option Sp}{O:Own}(h:bT n lo hi L R S W O){r:Nat}{F:Sp}(hr:W r=some F){p x:Nat}(hp:p<1024)(hx:(lo≤x∧x<hi))(h0:R x=0)(hh:hasB F (p/32)=false){e:fT}(he:mO n e):
  bT n lo hi (kH (kH (putRow L x zeros) r (p/32) (true,false,false,(x:Int))) x (p%32) e) (upd R x 1) S (j6 W r (some (aH F p e))) (j6 O x (some (r,some (p/32)))):=by
 have hn:=h.nm
 have ho:=h.free h0
 obtain⟨ok,hlo⟩:=Il h.pos (Or.inr he)
 obtain⟨hrm,hor⟩:=h.root r F hr
 have hrx:r≠x:=by rintro rfl;rw[hor]at ho;cases ho
 have l1:(putRow L x zeros).length=n*32:=gP h.len (by omega) (by decide)
 have l2:(kH (putRow L x zeros) r (p/32) (true,false,false,(x:Int))).length=n*32:=by rw[iI];exact l1
 have okt:nN true false false (x:Int)=true:=by have:=h.top;simp[nN];omega
 have far:∀f q:Nat,(lo≤f∧f<hi)→q<32→f≠x→(f≠r∨q≠p/32)→dQ n (kH (kH (putRow L x zeros) r (p/32) (true,false,false,(x:Int))) x (p%32) e) (f:Int) (q:Int)=dQ n L (f:Int) (q:Int):=fun f q hf hq hne hne2=>by
  rw[bQ l2 (by omega) (by omega) (by omega) hq (Or.inl hne),bQ l1 (by omega) (by omega) (by omega) hq hne2,jB h.len (by omega) (by omega) hq hne]
 have hzero:∀j,j<32→F (32*(p/32)+j)=z0:=fun j hj=>by
  rcases h.fit r F (32*(p/32)+j) hr with hz|hf
  ·exact hz
  ·have:=(jr F (p/32)).2 ⟨j,hj,hf.1⟩
   rw[hh]at this;cases this
 refine⟨by rw[iI];exact l2,hn,h.top,fun r'=>?_,fun r' F' hr'=>?_,fun r' F' i hr' hi hhi=>?_,fun r' F' i hr' hi hhi=>?_,fun r' F' p' hr'=>?_,fun f=>?_,fun f hf=>?_⟩
 ·rw[h.sp r']
  by_cases e':r'=r
  ·subst e';rw[aP,hr];rfl
  ·rw[au _ _ _ _ e']
 ·by_cases e':r'=r
  ·subst e';exact⟨hrm,by rw[au _ _ _ _ hrx];exact hor⟩
  ·rw[au _ _ _ _ e']at hr'
   obtain⟨k1,k2⟩:=h.root r' F' hr'
   exact⟨k1,by rw[au _ _ _ _ (by rintro rfl;rw[ho]at k2;cases k2)];exact k2⟩
 ·by_cases e':r'=r
  ·subst e'
   rw[aP]at hr'
   cases hr'
   by_cases ei:i=p/32
   ·subst ei
    refine⟨x,hx,aP _ _ _,?_,fun j hj=>?_⟩
    ·rw[bQ l2 (by omega) (by omega) (by omega) hi (Or.inl hrx)]
     exact iJ l1 (by omega) hi okt (by simp;omega)
    ·by_cases ej:j=p%32
     ·rw[ej,iJ l2 (by omega) (by omega) ok hlo,show 32*(p/32)+p%32=p by omega,aD]
     ·rw[bQ l2 (by omega) (by omega) (by omega) hj (Or.inr ej),bQ l1 (by omega) (by omega) (by omega) hj (Or.inl (Ne.symm hrx)),sV h.len (by omega) hj,aA _ _ _ _ (by omega),hzero j hj]
   ·rw[nW _ _ _ _ ei]at hhi
    obtain⟨g',hg',iK,k1,k2⟩:=h.yes r' F i hr hi hhi
    have hgx:g'≠x:=by rintro rfl;rw[ho]at iK;cases iK
    have hgr:g'≠r':=by rintro rfl;rw[hor]at iK;cases iK
    exact⟨g',hg',by rw[au _ _ _ _ hgx];exact iK,by rw[far _ _ hrm hi hrx (Or.inr ei)];exact k1,fun j hj=>by rw[far _ _ hg' hj hgx (Or.inl hgr),aA _ _ _ _ (by omega)];exact k2 j hj⟩
  ·rw[au _ _ _ _ e']at hr'
   obtain⟨g',hg',iK,k1,k2⟩:=h.yes r' F' i hr' hi hhi
   obtain⟨Cg,Ch⟩:=h.root r' F' hr'
   have hgx:g'≠x:=by rintro rfl;rw[ho]at iK;cases iK
   have hgr:g'≠r:=by rintro rfl;rw[hor]at iK;cases iK
   have acQ:r'≠x:=by rintro rfl;rw[Ch]at ho;cases ho
   exact⟨g',hg',by rw[au _ _ _ _ hgx];exact iK,by rw[far _ _ Cg hi acQ (Or.inl e')];exact k1,fun j hj=>by rw[far _ _ hg' hj hgx (Or.inl hgr)];exact k2 j hj⟩
 ·by_cases e':r'=r
  ·subst e'
   rw[aP]at hr'
   cases hr'
   by_cases ei:i=p/32
   ·subst ei;rw[wW _ _ _ he.1]at hhi;cases hhi
   ·rw[nW _ _ _ _ ei]at hhi
    rw[far _ _ hrm hi hrx (Or.inr ei)]
    exact h.no r' F i hr hi hhi
  ·rw[au _ _ _ _ e']at hr'
   obtain⟨Cg,Ch⟩:=h.root r' F' hr'
   have acQ:r'≠x:=by rintro rfl;rw[Ch]at ho;cases ho
   rw[far _ _ Cg hi acQ (Or.inl e')]
   exact h.no r' F' i hr' hi hhi
 ·by_cases e':r'=r
  ·subst e'
   rw[aP]at hr'
   cases hr'
   by_cases ep:p'=p
   ·subst ep;rw[aD];exact Or.inr he
   ·rw[aA _ _ _ _ ep];exact h.fit r' F p' hr
  ·rw[au _ _ _ _ e']at hr';exact h.fit r' F' p' hr'
 ·intro hf
  by_cases e:f=x
  ·subst e;exact upd_same _ _ _
  ·rw[au _ _ _ _ e]at hf;rw[aC _ _ _ _ e];exact h.held f hf
 ·by_cases e:f=x
  ·subst e;exact hx
  ·rw[au _ _ _ _ e]at hf;exact h.low f hf
theorem bT.drop{n lo hi:Nat}{L:List Int}{R:Nat→Nat}{S:Nat→Bool}{W:Nat→Option Sp}{O:Own}(h:bT n lo hi L R S W O){r:Nat}{F:Sp}(hr:W r=some F){p g:Nat}(hp:p<1024)(hg:(lo≤g∧g<hi))(hog:O g=some (r,some (p/32)))(hh':hasB (aH F p z0) (p/32)=false):
  bT n lo hi (kH (kH L g (p%32) z0) r (p/32) z0) (upd R g 0) S (j6 W r (some (aH F p z0))) (j6 O g none):=by
 have hn:=h.nm
 obtain⟨ok,hlo⟩:=Il h.pos (Or.inl rfl:z0=z0∨mO n z0)
 obtain⟨hrm,hor⟩:=h.root r F hr
 have hrg:r≠g:=by rintro rfl;rw[hor]at hog;cases hog
 have l1:(kH L g (p%32) z0).length=n*32:=by rw[iI];exact h.len
 have far:∀f q:Nat,(lo≤f∧f<hi)→q<32→f≠g→(f≠r∨q≠p/32)→dQ n (kH (kH L g (p%32) z0) r (p/32) z0) (f:Int) (q:Int)=dQ n L (f:Int) (q:Int):=fun f q hf hq hne hne2=>by
  rw[bQ l1 (by omega) (by omega) (by omega) hq hne2,bQ h.len (by omega) (by omega) (by omega) hq (Or.inl hne)]
 refine⟨by rw[iI];exact l1,hn,h.top,fun r'=>?_,fun r' F' hr'=>?_,fun r' F' i hr' hi hhi=>?_,fun r' F' i hr' hi hhi=>?_,fun r' F' p' hr'=>?_,fun f=>?_,fun f hf=>?_⟩
 ·rw[h.sp r']
  by_cases e':r'=r
  ·subst e';rw[aP,hr];rfl
  ·rw[au _ _ _ _ e']
 ·by_cases e':r'=r
  ·subst e';exact⟨hrm,by rw[au _ _ _ _ hrg];exact hor⟩
  ·rw[au _ _ _ _ e']at hr'
   obtain⟨k1,k2⟩:=h.root r' F' hr'
   exact⟨k1,by rw[au _ _ _ _ (by rintro rfl;rw[hog]at k2;cases k2)];exact k2⟩
 ·by_cases e':r'=r
  ·subst e'
   rw[aP]at hr'
   cases hr'
   by_cases ei:i=p/32
   ·subst ei;rw[hh']at hhi;cases hhi
   ·rw[nW _ _ _ _ ei]at hhi
    obtain⟨g',hg',iK,k1,k2⟩:=h.yes r' F i hr hi hhi
    have hgg:g'≠g:=by rintro rfl;rw[hog]at iK;cases iK;exact ei rfl
    have hgr:g'≠r':=by rintro rfl;rw[hor]at iK;cases iK
    exact⟨g',hg',by rw[au _ _ _ _ hgg];exact iK,by rw[far _ _ hrm hi hrg (Or.inr ei)];exact k1,fun j hj=>by rw[far _ _ hg' hj hgg (Or.inl hgr),aA _ _ _ _ (by omega)];exact k2 j hj⟩
  ·rw[au _ _ _ _ e']at hr'
   obtain⟨g',hg',iK,k1,k2⟩:=h.yes r' F' i hr' hi hhi
   obtain⟨Cg,Ch⟩:=h.root r' F' hr'
   have hgg:g'≠g:=by rintro rfl;rw[hog]at iK;cases iK;exact e' rfl
   have hgr:g'≠r:=by rintro rfl;rw[hor]at iK;cases iK
   have Nz:r'≠g:=by rintro rfl;rw[Ch]at hog;cases hog
   exact⟨g',hg',by rw[au _ _ _ _ hgg];exact iK,by rw[far _ _ Cg hi Nz (Or.inl e')];exact k1,fun j hj=>by rw[far _ _ hg' hj hgg (Or.inl hgr)];exact k2 j hj⟩
 ·by_cases e':r'=r
  ·subst e'
   rw[aP]at hr'
   cases hr'
   by_cases ei:i=p/32
   ·subst ei
    exact iJ l1 (by omega) hi ok hlo
   ·rw[nW _ _ _ _ ei]at hhi
    rw[far _ _ hrm hi hrg (Or.inr ei)]
    exact h.no r' F i hr hi hhi
  ·rw[au _ _ _ _ e']at hr'
   obtain⟨Cg,Ch⟩:=h.root r' F' hr'
   have Nz:r'≠g:=by rintro rfl;rw[Ch]at hog;cases hog
   rw[far _ _ Cg hi Nz (Or.inl e')]
   exact h.no r' F' i hr' hi hhi
 ·by_cases e':r'=r
  ·subst e'
   rw[aP]at hr'
   cases hr'
   by_cases ep:p'=p
   ·subst ep;rw[aD];exact Or.inl rfl
   ·rw[aA _ _ _ _ ep];exact h.fit r' F p' hr
  ·rw[au _ _ _ _ e']at hr';exact h.fit r' F' p' hr'
 ·intro hf
  by_cases e:f=g
  ·subst e;rw[aP]at hf;cases hf
  ·rw[au _ _ _ _ e]at hf;rw[aC _ _ _ _ e];exact h.held f hf
 ·by_cases e:f=g
  ·subst e;exact hg
  ·rw[au _ _ _ _ e]at hf;exact h.low f hf
theorem bT.close{n lo hi:Nat}{L:List Int}{R:Nat→Nat}{S:Nat→Bool}{W:Nat→Option Sp}{O:Own}(h:bT n lo hi L R S W O){r:Nat}{F:Sp}(hr:W r=some F):
  bT n lo hi L (upd R r 0) (p9 S r false) (j6 W r none) (j6 O r none):=by
 obtain⟨hrm,hor⟩:=h.root r F hr
 refine⟨h.len,h.nm,h.top,fun r'=>?_,fun r' F' hr'=>?_,fun r' F' i hr' hi hhi=>?_,fun r' F' i hr' hi hhi=>?_,fun r' F' p' hr'=>?_,fun f=>?_,fun f hf=>?_⟩
 ·unfold p9 j6
  split
  ·rfl
  ·exact h.sp r'
 ·by_cases e':r'=r
  ·subst e';rw[aP]at hr';cases hr'
  ·rw[au _ _ _ _ e']at hr' ⊢;exact h.root r' F' hr'
 ·by_cases e':r'=r
  ·subst e';rw[aP]at hr';cases hr'
  ·rw[au _ _ _ _ e']at hr'
   obtain⟨g',hg',iK,k1,k2⟩:=h.yes r' F' i hr' hi hhi
   have hgr:g'≠r:=by rintro rfl;rw[hor]at iK;cases iK
   exact⟨g',hg',by rw[au _ _ _ _ hgr];exact iK,k1,k2⟩
 ·by_cases e':r'=r
  ·subst e';rw[aP]at hr';cases hr'
  ·rw[au _ _ _ _ e']at hr';exact h.no r' F' i hr' hi hhi
 ·by_cases e':r'=r
  ·subst e';rw[aP]at hr';cases hr'
  ·rw[au _ _ _ _ e']at hr';exact h.fit r' F' p' hr'
 ·intro hf
  by_cases e:f=r
  ·subst e;rw[aP]at hf;cases hf
  ·rw[au _ _ _ _ e]at hf;rw[aC _ _ _ _ e];exact h.held f hf
 ·by_cases e:f=r
  ·subst e;exact hrm
  ·rw[au _ _ _ _ e]at hf;exact h.low f hf
theorem bT.V9{n lo hi:Nat}{L:List Int}{R:Nat→Nat}{S:Nat→Bool}{W:Nat→Option Sp}{O:Own}(h:bT n lo hi L R S W O){r:Nat}{F:Sp}(hr:W r=some F):mM n L (r:Int)=true↔∀i,i<32→hasB F i=false:=by
 rw[Fh]
 constructor
 ·intro hb i hi
  cases hh:hasB F i with
  |false=>rfl
  |true=>
   obtain⟨g,_,_,h1,_⟩:=h.yes r F i hr hi hh
   have:=hb i hi
   rw[fD h1]at this;cases this
 ·intro hb i hi
  rw[fD (h.no r F i hr hi (hb i hi))];rfl
theorem Wd{n lo hi:Nat}{L:List Int}{R:Nat→Nat}{S:Nat→Bool}{W:Nat→Option Sp}{O:Own}(h:bT n lo hi L R S W O){r:Nat}{F:Sp}(hr:W r=some F){p g:Nat}(hp:p<1024)(hg:(lo≤g∧g<hi))(hent:dQ n L (r:Int) ((p/32:Nat):Int)=some (true,false,false,(g:Int)))(hh:hasB F (p/32)=true):mM n (kH L g (p%32) z0) (g:Int)= !hasB (aH F p z0) (p/32):=by
 have hn:=h.nm
 obtain⟨ok,hlo⟩:=Il h.pos (Or.inl rfl:z0=z0∨mO n z0)
 obtain⟨g2,hg2,aeK,h1,h2⟩:=h.yes r F (p/32) hr (by omega) hh
 obtain rfl:g2=g:=by rw[hent]at h1;simp at h1;omega
 have hj:∀j:Nat,j<32→lF n (kH L g2 (p%32) z0) (g2:Int) (j:Int)=aH F p z0 (32*(p/32)+j):=fun j hj=>by
  by_cases ej:j=p%32
  ·rw[ej,fD (iJ h.len (by omega) (by omega) ok hlo),show 32*(p/32)+p%32=p by omega,aD]
  ·rw[aA _ _ _ _ (by omega)]
   exact fD (by rw[bQ h.len (by omega) (by omega) (by omega) hj (Or.inr ej)];exact h2 j hj)
 rw[Bool.eq_iff_iff,Fh]
 constructor
 ·intro hb
  cases hx:hasB (aH F p z0) (p/32)with
  |false=>rfl
  |true=>
   obtain⟨j,hj1,hj2⟩:=(jr _ _).1 hx
   rw[←hj j hj1,hb j hj1]at hj2;cases hj2
 ·intro hb j hj1
  rw[hj j hj1]
  cases hx:(aH F p z0 (32*(p/32)+j)).1 with
  |false=>rfl
  |true=>
   have:=(jr (aH F p z0) (p/32)).2 ⟨j,hj1,hx⟩
   rw[this]at hb;cases hb
def dF(lo hi:Nat)(R:Nat→Nat):Nat:=(bN (lo,hi-lo) R).length
abbrev dI(lo hi:Nat)(T:List (Nat×Nat)):List (Nat×Nat):=(lo,hi-lo)::T
theorem Wi(T:List (Nat×Nat))(lo hi:Nat)(R:Nat→Nat):zy (dI lo hi T) R 0=dF lo hi R:=by
 unfold zy
 rw[if_pos (by simp[iG])];rfl
theorem bT.oN{n lo hi:Nat}{L:List Int}{R:Nat→Nat}{S:Nat→Bool}{W:Nat→Option Sp}{O:Own}(h:bT n lo hi L R S W O)(r:Int):isSp S r=(lI W r).isSome:=by
 unfold isSp lI
 by_cases h0:0≤r
 ·simp[h0,h.sp]
 ·simp[h0]
theorem Fq{lo hi:Nat}{R:Nat→Nat}(T:List (Nat×Nat))(h:dF lo hi R=0)(L:List Int):dG (dI lo hi T) R 0=(0,3)∧fO (dI lo hi T) R 0 L=L∧gq (dI lo hi T) R 0=R:=by
 have hp:iG (dI lo hi T) 0=true:=by simp[iG]
 have he:bN ((dI lo hi T).getD (0:Int).toNat (0,0)) R=[]:=List.eq_nil_of_length_eq_zero h
 unfold dG fO gq
 simp only[hp,if_true,he]
 exact⟨trivial,trivial,trivial⟩
theorem vN{lo hi:Nat}{R:Nat→Nat}(T:List (Nat×Nat))(h:dF lo hi R≠0)(L:List Int):∃x:Nat,(lo≤x∧x<hi)∧R x=0∧dG (dI lo hi T) R 0=((x:Int),0)∧fO (dI lo hi T) R 0 L=putRow L x zeros∧gq (dI lo hi T) R 0=upd R x 1∧dF lo hi (upd R x 1)+1=dF lo hi R:=by
 have hp:iG (dI lo hi T) 0=true:=by simp[iG]
 unfold dF at h
 cases he:bN (lo,hi-lo) R with
 |nil=>rw[he]at h;exact absurd rfl h
 |cons x r=>
  have he':bN ((dI lo hi T).getD (0:Int).toNat (0,0)) R=x::r:=he
  have hm:=(fC (lo,hi-lo) R x).1 (by rw[he];simp)
  refine⟨x,by have:=hm.1;simp only at this;omega,hm.2,?_,?_,?_,?_⟩
  ·unfold dG;simp only[hp,if_true,he']
  ·unfold fO;simp only[hp,if_true,he']
  ·unfold gq;simp only[hp,if_true,he']
  ·unfold dF;rw[Bv (lo,hi-lo) R x 1 r he (by decide),he];simp
theorem Wj{lo hi g:Nat}{R:Nat→Nat}(T:List (Nat×Nat))(hg:lo≤g∧g<hi)(h1:R g≠0):eX (dI lo hi T) R (g:Int)=0:=by
 have ho:iQ (dI lo hi T) (g:Int)=(((0:Nat):Int),0):=Ia _ _ 0 (by simp) (by simp[vY];omega) (fun j hj=>absurd hj (Nat.not_lt_zero _))
 unfold eX;rw[ho,nP];simp;omega
theorem Wm{lo hi g:Nat}{R:Nat→Nat}(T:List (Nat×Nat))(hg:lo≤g∧g<hi)(h1:R g≠0):l7 (dI lo hi T) R (g:Int)=upd R g (R g-1):=by
 unfold l7;rw[if_pos (Wj T hg h1),Int.toNat_natCast]
theorem Ci{lo hi g:Nat}{R:Nat→Nat}(hg:lo≤g∧g<hi)(h1:R g≠0):dF lo hi (upd R g 0)=dF lo hi R+1:=by
 obtain⟨a,b⟩:=Bw (lo,hi-lo) R g (by simp only;omega) h1
 unfold dF
 rw[b,Ng]
theorem Pk{lo hi g:Nat}{R:Nat→Nat}(T:List (Nat×Nat))(hg:lo≤g∧g<hi)(h1:R g=1):l7 (dI lo hi T) R (g:Int)=upd R g 0∧dF lo hi (upd R g 0)=dF lo hi R+1:=by
 refine⟨by rw[Wm T hg (by omega),h1],Ci hg (by omega)⟩
theorem bT.one{n lo hi:Nat}{L:List Int}{R:Nat→Nat}{S:Nat→Bool}{W:Nat→Option Sp}{O:Own}(h:bT n lo hi L R S W O){g:Nat}{o:Nat×Option Nat}(ho:O g=some o):R g=1∧(lo≤g∧g<hi):=by
 refine⟨h.held g (by rw[ho];rfl),h.low g (by rw[ho];rfl)⟩
theorem bT.zG{n lo hi:Nat}(T:List (Nat×Nat)){L:List Int}{R:Nat→Nat}{S:Nat→Bool}{W:Nat→Option Sp}{O:Own}(h:bT n lo hi L R S W O):
  (dF lo hi R=0∧oL (dI lo hi T) L R S=((0,3),L,R,S))∨
  (∃(x:Nat) (L':List Int) (R':Nat→Nat) (O':Own),(lo≤x∧x<hi)∧W x=none∧oL (dI lo hi T) L R S=(((x:Int),0),L',R',p9 S x true)∧bT n lo hi L' R' (p9 S x true) (j6 W x (some fun _=>z0)) O'∧dF lo hi R'+1=dF lo hi R∧dA n hi L R O L' R' O'):=by
 by_cases h0:dF lo hi R=0
 ·obtain⟨a,b,c⟩:=Fq T h0 L
  refine Or.inl ⟨h0,?_⟩
  unfold oL
  rw[a,b,c,if_neg (by decide)]
 ·obtain⟨x,hx,hr,a,b,c,d⟩:=vN T h0 L
  obtain⟨i1,i2⟩:=h.open_ hx hr
  refine Or.inr ⟨x,_,_,_,hx,i2,?_,i1,d,dA.take h.len (by have:=h.nm;omega) hr (h.free hr) _⟩
  unfold oL
  rw[a,b,c,if_pos rfl];rfl
theorem Pm{n lo hi:Nat}{L:List Int}{R:Nat→Nat}{S:Nat→Bool}{W:Nat→Option Sp}{O:Own}(h:bT n lo hi L R S W O)(r pg:Int)(e:fT)(k:Int):
  aN [0,kI pg,o9 n e.1 e.2.1 e.2.2.1 e.2.2.2,bZ S r,k]=if dh W r pg (sW n e)=0 then k else dh W r pg (sW n e):=by
 by_cases h1:0≤pg∧pg<1024
 ·cases h2:sW n e with
  | true=>
   cases hs:(lI W r).isSome with
   |true=>
    rw[Ca ⟨h1,rfl⟩ hs,if_pos rfl]
    simp only[aN,wY h1,Ph h2,if_true,bZ,h.oN,hs]
    exact VY k
   |false=>
    rw[Fj ⟨h1,rfl⟩ hs,if_neg (by decide)]
    simp[aN,wY h1,Ph h2,bZ,h.oN,hs]
  |false=>
   rw[qN (by simp),if_neg (by decide)]
   simp[aN,wY h1,VX h2]
 ·rw[qN (fun hh=>h1 hh.1),if_neg (by decide)]
  simp[aN,KA h1]
theorem aeL{n lo hi:Nat}{L:List Int}{R:Nat→Nat}{S:Nat→Bool}{W:Nat→Option Sp}{O:Own}(h:bT n lo hi L R S W O)(r pg:Int)(k:Int):
  aN [0,kI pg,bZ S r,k]=if dh W r pg true=0 then k else dh W r pg true:=by
 by_cases h1:0≤pg∧pg<1024
 ·cases hs:(lI W r).isSome with
  |true=>
   rw[Ca ⟨h1,rfl⟩ hs,if_pos rfl]
   simp only[aN,wY h1,if_true,bZ,h.oN,hs]
   exact VY k
  |false=>
   rw[Fj ⟨h1,rfl⟩ hs,if_neg (by decide)]
   simp[aN,wY h1,bZ,h.oN,hs]
 ·rw[qN (fun hh=>h1 hh.1),if_neg (by decide)]
  simp[aN,KA h1]
theorem bT.ah3{n lo hi:Nat}(T:List (Nat×Nat)){L:List Int}{R:Nat→Nat}{S:Nat→Bool}{W:Nat→Option Sp}{O:Own}(h:bT n lo hi L R S W O)(r pg:Int)(e:fT):
  ∃(L':List Int) (R':Nat→Nat) (O':Own),mapA n (dI lo hi T) L R S r pg e.1 e.2.1 e.2.2.1 e.2.2.2=(lJ n W (dF lo hi R) r pg e,L',R')∧
   (lJ n W (dF lo hi R) r pg e=0→bT n lo hi L' R' S (vK W r pg e) O'∧dF lo hi R'+needs W r pg=dF lo hi R)∧
   (lJ n W (dF lo hi R) r pg e≠0→bT n lo hi L' R' S W O'∧R'=R)∧dA n hi L R O L' R' O':=by
 by_cases h0:dh W r pg (sW n e)=0
 ·obtain⟨k,p,F,rfl,rfl,hp,hw,hfit,hF⟩:=oM h0
  have he:=(wX n e).1 hfit
  have hmp:mpE n L S (k:Int) (p:Int) e.1 e.2.1 e.2.2.1 e.2.2.2=BO n L (k:Int) (p:Int):=by
   unfold mpE
   rw[Pm h,if_pos h0]
  have hme:lJ n W (dF lo hi R) (k:Int) (p:Int) e=if(F p).1=true then 5 else if hasB F (p/32)=false∧dF lo hi R=0 then 3 else 0:=by
   unfold lJ
   rw[if_pos h0,hF];simp
  have hpw:vK W (k:Int) (p:Int) e=j6 W k (some (aH F p e)):=by unfold vK;rw[hF];simp
  have hnd:needs W (k:Int) (p:Int)=if hasB F (p/32)=true then 0 else 1:=by unfold needs;rw[hF];simp
  rw[hme,hpw,hnd]
  have hu:BO n L (k:Int) (p:Int)=if(F p).1=true then 5 else 0:=by unfold BO;rw[h.Pj hw p hp]
  by_cases hfp:(F p).1=true
  ·rw[if_pos hfp]
   refine⟨L,R,O,?_,fun hh=>absurd hh (by decide),fun _=>⟨h,rfl⟩,dA.refl _ _ _ _⟩
   unfold mapA
   rw[hmp,hu,if_pos hfp,if_neg (by decide)]
  ·rw [if_neg hfp]
   have hz:F p=z0:=by
    rcases h.fit k F p hw with hz|hf
    ·exact hz
    ·exact absurd hf.1 hfp
   rcases h.find hw p hp with⟨hh,g,hg,hog,hent,ZJ⟩|⟨hh,_,ZJ⟩
   ·rw[if_neg (by rw[hh];simp)]
    refine⟨kH L g (p%32) e,R,O,?_,fun _=>⟨h.page hw hp hg hog hent hh (Or.inr he) (wW F p e he.1),by rw[if_pos hh];rfl⟩,fun hne=>absurd rfl hne,dA.put h.len (by have:=h.nm;omega) (by rw[hog];rfl)⟩
    unfold mapA
    rw[hmp,hu,if_neg hfp,if_pos rfl,ZJ,if_pos rfl,Cb,sZ]
   ·by_cases hl:dF lo hi R=0
    ·rw[if_pos ⟨hh,hl⟩]
     obtain⟨a,b,c⟩:=Fq T hl L
     refine⟨L,R,O,?_,fun hx=>absurd hx (by decide),fun _=>⟨h,rfl⟩,dA.refl _ _ _ _⟩
     unfold mapA
     rw[hmp,hu,if_neg hfp,if_pos rfl,ZJ,if_neg (by decide),a,if_neg (by decide)]
    ·rw[if_neg (fun hx=>hl hx.2)]
     obtain⟨x,hx,hr0,a,b,c,d⟩:=vN T hl L
     refine⟨_,_,_,?_,fun _=>⟨h.fresh hw hp hx hr0 hh he,by rw[if_neg (by rw[hh];decide)];exact d⟩,fun hne=>absurd rfl hne,?_⟩
     ·unfold mapA
      rw[hmp,hu,if_neg hfp,if_pos rfl,ZJ,if_neg (by decide),a,if_pos rfl,b,c,Cb,VZ]
      simp only[sZ]
     ·have hn:=h.nm
      have ho:=h.free hr0
      obtain⟨hrm,hor⟩:=h.root k F hw
      have hkx:k≠x:=by rintro rfl;rw[hor]at ho;cases ho
      have k1:=dA.take h.len (show x<n∧x<hi by omega) hr0 ho (k,some (p/32))
      have l1:(putRow L x zeros).length=n*32:=gP h.len (by omega) (by decide)
      refine(k1.trans (dA.put (g:=k) l1 (by omega) ?_)).trans (dA.put (by rw[iI];exact l1) (by omega) ?_)
      ·rw[au _ _ _ _ hkx,hor];rfl
      ·rw[aP];rfl
 ·have hme:lJ n W (dF lo hi R) r pg e=dh W r pg (sW n e):=by unfold lJ;rw[if_neg h0]
  rw[hme]
  refine⟨L,R,O,?_,fun hh=>absurd hh h0,fun _=>⟨h,rfl⟩,dA.refl _ _ _ _⟩
  have hmp:mpE n L S r pg e.1 e.2.1 e.2.2.1 e.2.2.2=dh W r pg (sW n e):=by unfold mpE;rw[Pm h,if_neg h0]
  unfold mapA
  rw[hmp,if_neg h0]
theorem bT.Wn{n lo hi:Nat}{L:List Int}{R:Nat→Nat}{S:Nat→Bool}{W:Nat→Option Sp}{O:Own}(h:bT n lo hi L R S W O)(r pg:Int)(e:fT):
  DZ n L S r pg e.1 e.2.1 e.2.2.1 e.2.2.2=jc n W r pg e∧
  (jc n W r pg e=0→bT n lo hi (vH n L S r pg e.1 e.2.1 e.2.2.1 e.2.2.2) R S (vK W r pg e) O)∧
  (jc n W r pg e≠0→vH n L S r pg e.1 e.2.1 e.2.2.1 e.2.2.2=L)∧dA n hi L R O (vH n L S r pg e.1 e.2.1 e.2.2.1 e.2.2.2) R O:=by
 suffices hs:DZ n L S r pg e.1 e.2.1 e.2.2.1 e.2.2.2=jc n W r pg e∧(jc n W r pg e=0→bT n lo hi (vH n L S r pg e.1 e.2.1 e.2.2.1 e.2.2.2) R S (vK W r pg e) O∧dA n hi L R O (vH n L S r pg e.1 e.2.1 e.2.2.1 e.2.2.2) R O)∧(jc n W r pg e≠0→vH n L S r pg e.1 e.2.1 e.2.2.1 e.2.2.2=L) by
  refine⟨hs.1,fun h0=>(hs.2.1 h0).1,hs.2.2,?_⟩
  by_cases h0:jc n W r pg e=0
  ·exact(hs.2.1 h0).2
  ·rw[hs.2.2 h0];exact dA.refl _ _ _ _
 by_cases h0:dh W r pg (sW n e)=0
 ·obtain⟨k,p,F,rfl,rfl,hp,hw,hfit,hF⟩:=oM h0
  have he:=(wX n e).1 hfit
  have hse:DZ n L S (k:Int) (p:Int) e.1 e.2.1 e.2.2.1 e.2.2.2=pq n L (k:Int) (p:Int):=by unfold DZ;rw[Pm h,if_pos h0]
  have hme:jc n W (k:Int) (p:Int) e=if(F p).1=true then 0 else 4:=by unfold jc;rw[if_pos h0,hF];simp
  have hu:pq n L (k:Int) (p:Int)=if(F p).1=true then 0 else 4:=by unfold pq;rw[h.Pj hw p hp]
  have hpw:vK W (k:Int) (p:Int) e=j6 W k (some (aH F p e)):=by unfold vK;rw[hF];simp
  refine⟨by rw[hse,hu,hme],fun hh=>?_,fun hne=>?_⟩
  ·rw[hme]at hh
   have hfp:(F p).1=true:=by
    by_cases hx:(F p).1=true
    ·exact hx
    ·rw[if_neg hx]at hh;cases hh
   rcases h.find hw p hp with⟨hh,g,hg,hog,hent,ZJ⟩|⟨_,hz,_⟩
   ·unfold vH
    rw[hse,hu,if_pos hfp,if_pos rfl,ZJ,hpw,Cb,sZ]
    exact⟨h.page hw hp hg hog hent hh (Or.inr he) (wW F p e he.1),dA.put h.len (by have:=h.nm;omega) (by rw[hog];rfl)⟩
   ·rw[hz]at hfp;cases hfp
  ·unfold vH
   rw[hse,hu,←hme,if_neg hne]
 ·have hme:jc n W r pg e=dh W r pg (sW n e):=by unfold jc;rw[if_neg h0]
  have hse:DZ n L S r pg e.1 e.2.1 e.2.2.1 e.2.2.2=dh W r pg (sW n e):=by unfold DZ;rw[Pm h,if_neg h0]
  refine⟨by rw[hse,hme],fun hh=>absurd (hme▸hh) h0,fun _=>?_⟩
  unfold vH
  rw[hse,if_neg h0]
theorem qO{n lo hi:Nat}{L:List Int}{R:Nat→Nat}{S:Nat→Bool}{W:Nat→Option Sp}{O:Own}(h:bT n lo hi L R S W O)(r pg:Int):qL n L S r pg=eu W r pg:=by
 unfold qL eu
 rw[aeL h]
 by_cases h0:dh W r pg true=0
 ·obtain⟨k,p,F,rfl,rfl,hp,hw,_,hF⟩:=oM h0
  rw[if_pos h0,if_pos h0,hF]
  unfold pq
  rw[h.Pj hw p hp];simp
 ·rw[if_neg h0,if_neg h0]
theorem bT.ah4{n lo hi:Nat}(T:List (Nat×Nat)){L:List Int}{R:Nat→Nat}{S:Nat→Bool}{W:Nat→Option Sp}{O:Own}(h:bT n lo hi L R S W O)(r pg:Int):
  ∃(L':List Int) (R':Nat→Nat) (O':Own),yC n (dI lo hi T) L R S r pg=(if eu W r pg=0 then KC W r pg else z0,eu W r pg,L',R')∧
   (eu W r pg=0→bT n lo hi L' R' S (vK W r pg z0) O'∧dF lo hi R'=dF lo hi R+frees W r pg)∧
   (eu W r pg≠0→bT n lo hi L' R' S W O'∧R'=R)∧dA n hi L R O L' R' O':=by
 by_cases h0:eu W r pg=0
 ·obtain⟨k,p,F,rfl,rfl,hp,hw,hF,hfp⟩:=zF h0
  have hpw:vK W (k:Int) (p:Int) z0=j6 W k (some (aH F p z0)):=by unfold vK;rw[hF];simp
  have hfr:frees W (k:Int) (p:Int)=if hasB (aH F p z0) (p/32)=true then 0 else 1:=by unfold frees;rw[hF];simp
  have hen:KC W (k:Int) (p:Int)=F p:=by unfold KC;rw[hF];simp
  rw[hpw,hfr,hen,h0]
  rcases h.find hw p hp with⟨hh,g,hg,hog,hent,ZJ⟩|⟨_,hz,_⟩
  ·have hbt:=Wd h hw hp hg hent hh
   have hone:=h.one hog
   obtain⟨hfree,hleft⟩:=Pk T hg hone.1
   cases hb:hasB (aH F p z0) (p/32)with
   |true=>
    refine⟨kH L g (p%32) z0,R,O,?_,fun _=>⟨h.page hw hp hg hog hent hh (Or.inl rfl) hb,rfl⟩,fun hne=>absurd rfl hne,dA.put h.len (by have:=h.nm;omega) (by rw[hog];rfl)⟩
    unfold yC
    rw[qO h,h0,if_pos rfl,if_pos rfl,ZJ,Cb,sZ]
    simp only
    rw[hbt,hb];rfl
   | false=>
    refine⟨_,_,_,?_,fun _=>⟨h.drop hw hp hg hog hb,hleft⟩,fun hne=>absurd rfl hne,?_⟩
    ·unfold yC
     rw[qO h,h0,if_pos rfl,if_pos rfl,ZJ,Cb,VZ]
     simp only[sZ]
     rw[hbt,hb,hfree];rfl
    ·have hn:=h.nm
     obtain⟨hrm,hor⟩:=h.root k F hw
     exact((dA.put h.len (by have:=h.nm;omega) (by rw[hog];rfl)).trans (dA.put (g:=k) (by rw[iI];exact h.len) (by omega) (by rw[hor];rfl))).trans (dA.drop (by rw[hog];rfl))
  ·rw[hz]at hfp;cases hfp
 ·refine⟨L,R,O,?_,fun hh=>absurd hh h0,fun _=>⟨h,rfl⟩,dA.refl _ _ _ _⟩
  unfold yC
  rw[qO h,if_neg h0,if_neg h0]
theorem bT.ah5{n lo hi:Nat}{L:List Int}{R:Nat→Nat}{S:Nat→Bool}{W:Nat→Option Sp}{O:Own}(h:bT n lo hi L R S W O)(r pg:Int):Ii n L S r pg=if eu W r pg=0 then(KC W r pg,true)else(z0,false):=by
 unfold Ii
 rw[qO h]
 by_cases h0:eu W r pg=0
 ·obtain⟨k,p,F,rfl,rfl,hp,hw,hF,hfp⟩:=zF h0
  rw[if_pos h0,if_pos h0,h.Pj hw p hp]
  unfold KC;rw[hF];simp
 ·rw[if_neg h0,if_neg h0]
theorem bT.ah6{n lo hi:Nat}(T:List (Nat×Nat)){L:List Int}{R:Nat→Nat}{S:Nat→Bool}{W:Nat→Option Sp}{O:Own}(h:bT n lo hi L R S W O)(r:Int):
  ∃(R':Nat→Nat) (S':Nat→Bool) (O':Own),nT n (dI lo hi T) L R S r=(kK W r,R',S')∧
   (kK W r=0→bT n lo hi L R' S' (j6 W r.toNat none) O'∧dF lo hi R'=dF lo hi R+1)∧
   (kK W r≠0→R'=R∧S'=S)∧dA n hi L R O L R' O':=by
 have hce:yD n L S r=kK W r:=by
  unfold yD kK
  cases hs:lI W r with
  |none=>simp[aN,bZ,h.oN,hs]
  |some F=>
   obtain⟨k,rfl,hw⟩:=qh hs
   simp only[aN,if_true,bZ,h.oN,hs,Option.isSome_some]
   have hb:mM n L (k:Int)=yF F:=by rw[Bool.eq_iff_iff,h.V9 hw,Cc]
   have:pE n L (k:Int)=if yF F=true then 0 else 9:=by unfold pE;rw[hb]
   rw[this]
   by_cases he:yF F=true
   ·simp[he]
   ·simp[he]
 by_cases h0:kK W r=0
 ·cases hs:lI W r with
  |none=>unfold kK at h0;rw[hs]at h0;cases h0
  |some F=>
   obtain⟨k,rfl,hw⟩:=qh hs
   obtain⟨hrm,hor⟩:=h.root k F hw
   have hone:=h.one hor
   obtain⟨hfree,hleft⟩:=Pk T hrm hone.1
   refine⟨_,_,_,?_,fun _=>⟨by rw[Int.toNat_natCast];exact h.close hw,hleft⟩,fun hne=>absurd h0 hne,dA.drop (by rw[hor];rfl)⟩
   unfold nT
   rw[hce,if_pos h0,h0,hfree];rfl
 ·refine⟨R,S,O,?_,fun hh=>absurd hh h0,fun _=>⟨rfl,rfl⟩,dA.refl _ _ _ _⟩
  unfold nT
  rw[hce,if_neg h0]
theorem bT.yG{n lo hi:Nat}{L:List Int}{R:Nat→Nat}{S:Nat→Bool}{W:Nat→Option Sp}{O:Own}(h:bT n lo hi L R S W O){r:Nat}{F:Sp}(hr:W r=some F):
  ∀k,k≤32→(cZ n L (r:Int) k).length=((List.range k).filter (hasB F)).length∧iZ n L (cZ n L (r:Int) k)=vL F 0 (32*k)
 |0,_=>⟨rfl,rfl⟩
 | k +1,hk=>by
  obtain⟨h1,h2⟩:=h.yG hr k (by omega)
  rw[List.range_succ,List.filter_append,List.length_append,show 32*(k+1)=32*k+32 by omega,KF,Nat.zero_add,←h2,←h1]
  cases hh:hasB F k with
  | true=>
   obtain⟨g,hg,hog,e1,e2⟩:=h.yes r F k hr (by omega) hh
   have ht:∀j,j≤32→qg (k:Int) (cZ n L (g:Int) j)=vL F (32*k) j:=by
    intro j
    induction j with
    |zero=>intro _;rfl
    | succ j ih=>
     intro hj
     have e3:=fD (e2 j (by omega))
     rw[vL,←ih (by omega)]
     cases hp:(F (32*k+j)).1 with
     |true=>
      rw[lH e3 hp,BU,if_pos rfl]
      simp only[List.append_cancel_left_eq,List.cons.injEq,Prod.mk.injEq,and_true]
      omega
     |false=>
      rw[um (by rw[e3];exact hp)];simp
   rw[lH (fD e1) rfl,zD,List.length_append]
   refine⟨by simp[hh],?_⟩
   rw[←ht 32 (by omega)];rfl
  | false=>
   have e1:=h.no r F k hr (by omega) hh
   rw[um (by rw[fD e1];rfl),Fp F (32*k) 32 (fun j hj=>by
    cases hx:(F (32*k+j)).1 with
    |false=>rfl
    |true=>have:=(jr F k).2 ⟨j,hj,hx⟩;rw[hh]at this;cases this)]
   simp[hh]
theorem bT.ah7{n lo hi:Nat}{L:List Int}{R:Nat→Nat}{S:Nat→Bool}{W:Nat→Option Sp}{O:Own}(h:bT n lo hi L R S W O)(r:Int):Ky n L S r=Km W r:=by
 unfold Ky Km
 rw[VP]
 unfold bZ
 rw[h.oN]
 cases hs:lI W r with
 |none=>simp
 |some F=>
  obtain⟨k,rfl,hw⟩:=qh hs
  simp only[Option.isSome_some,if_true]
  unfold vM gY
  rw[(h.yG hw 32 (by omega)).1]
theorem bT.ah8{n lo hi:Nat}{L:List Int}{R:Nat→Nat}{S:Nat→Bool}{W:Nat→Option Sp}{O:Own}(h:bT n lo hi L R S W O)(r:Int):allA n L S r=ZI W r:=by
 unfold allA ZI
 rw[VP]
 unfold bZ
 rw[h.oN]
 cases hs:lI W r with
 |none=>simp
 |some F=>
  obtain⟨k,rfl,hw⟩:=qh hs
  simp only[Option.isSome_some,if_true]
  unfold acB gY Ny
  rw[(h.yG hw 32 (by omega)).2]
end Go.Proofs.YtammlljefhakmaaGreatDoor
namespace Go.Proofs.YtammlljefhakmaaGreatDoor
open Go.RowKit Go.Maps
set_option maxRecDepth 100000
theorem bT.other{n lo hi:Nat}{L L':List Int}{R R':Nat→Nat}{S:Nat→Bool}{W:Nat→Option Sp}{O:Own}(h:bT n lo hi L R S W O)(hl:L'.length=n*32)(hR:∀f,(O f).isSome=true→R' f=R f)(hL:∀f q,(O f).isSome=true→q<32→L'.getD (f*32+q) 0=L.getD (f*32+q) 0):bT n lo hi L' R' S W O:=by
 have hE:∀f q:Nat,(O f).isSome=true→q<32→dQ n L' (f:Int) (q:Int)=dQ n L (f:Int) (q:Int):=fun f q hf hq=>by
  have:=(h.low f hf).2
  have:=h.nm
  rw[jV (by omega) hq,jV (by omega) hq,hL f q hf hq]
 refine⟨hl,h.nm,h.top,h.sp,h.root,fun r F i hr hi hh=>?_,fun r F i hr hi hh=>?_,h.fit,fun f hf=>(hR f hf).trans (h.held f hf),h.low⟩
 ·obtain⟨g,hg,hog,h1,h2⟩:=h.yes r F i hr hi hh
  have hor:=(h.root r F hr).2
  exact⟨g,hg,hog,by rw[hE r i (by rw[hor];rfl) hi];exact h1,fun j hj=>by rw[hE g j (by rw[hog];rfl) hj];exact h2 j hj⟩
 ·have hor:=(h.root r F hr).2
  rw[hE r i (by rw[hor];rfl) hi]
  exact h.no r F i hr hi hh
structure bJ(W0 w:World)(tb sb:Nat)(X:bC)(n lo hi c:Nat)(W:Nat→Option Sp)(Q:Nat→Nat)(V:Nat→Nat→Int):Prop where
 ex:∃L R S O T,Mg W0 w tb sb X L R S∧bT n lo hi L R S W O∧dF lo hi R=c∧X.P=dI lo hi T∧(∀f,Q f=QF R O f)∧(∀f q,f<n→q<32→Q f≠0→V f q=L.getD (f*32+q) 0)∧(∀f,Q f≠0→lo≤f∧f<hi)∧∀f q,f<n→q<32→hi≤f→L.getD (f*32+q) 0=X.kw f q
 hn:X.n=n
structure mP(W0 w w':World)(tb sb:Nat)(X:bC)(n lo hi c:Nat)(W:Nat→Option Sp)(Q:Nat→Nat)(V:Nat→Nat→Int):Prop where
 st:bJ W0 w' tb sb X n lo hi c W Q V
 only:Only w w' (mgB X sb)
section
variable {W0 w:World} {tb sb n lo hi c:Nat} {X:bC} {W:Nat→Option Sp} {Q:Nat→Nat} {V:Nat→Nat→Int}
theorem bJ.kept{w':World}(h:bJ W0 w tb sb X n lo hi c W Q V){B:Nat→Prop}(ho:Only w w' B)(hB:∀k,X.all k∨k=sb∨k=tb→¬B k)(hb:Below W0.heap.size W0 w'):bJ W0 w' tb sb X n lo hi c W Q V:=by
 obtain⟨L,R,S,O,T,h1,r⟩:=h.ex
 refine⟨⟨L,R,S,O,T,⟨⟨h1.own.st.kept ho (fun k hk=>hB k (Or.inl hk)),hb,h1.own.new,h1.own.laid⟩,h1.lw,h1.wd,ho.kept h1.box (hB _ (Or.inr (Or.inr rfl))),h1.jo.same (ho.block _ h1.jo.lt (hB _ (Or.inr (Or.inl rfl)))),h1.nt,h1.ns,h1.ne,h1.low⟩,r⟩,h.hn⟩
theorem bJ.step{w':World}(h:bJ W0 w tb sb X n lo hi c W Q V)(hb:Below w.heap.size w w'):bJ W0 w' tb sb X n lo hi c W Q V:=by
 obtain⟨L,R,S,O,T,h1,r⟩:=h.ex
 exact⟨⟨L,R,S,O,T,h1.step hb,r⟩,h.hn⟩
theorem bJ.below(h:bJ W0 w tb sb X n lo hi c W Q V):Below W0.heap.size W0 w:=by
 obtain⟨L,R,S,O,T,h1,r⟩:=h.ex
 exact h1.own.below
theorem bJ.Pn(h:bJ W0 w tb sb X n lo hi c W Q V):aM w:=by
 obtain⟨L,R,S,O,T,h1,r⟩:=h.ex
 exact h1.Km
theorem bJ.other{cs:Array Value}{t:TypeId}{z:Nat×Nat}{b:Nat}(h:bJ W0 w tb sb X n lo hi c W Q V)(hb:w.heap[b]? =some (.cells cs t z))(ht:t≠278∧t≠231∧t≠115∧t≠110∧t≠148):¬mgB X sb b:=fun hk=>by
 obtain⟨L,R,S,O,T,h1,r⟩:=h.ex
 rcases hk with hk|rfl
 ·exact h1.own.st.other hb ht (Or.inl hk)
 ·obtain⟨es,ck,hm⟩:=h1.jo.isMap
  rw[hm]at hb;cases hb
theorem bJ.kind(h:bJ W0 w tb sb X n lo hi c W Q V)(k:Nat)(hk:X.all k∨k=sb∨k=tb):W0.heap.size≤k∧∃o,w.heap[k]? =some o∧((kindOf o=none∧(k=X.mb∨k=sb))∨kindOf o=some 278∨kindOf o=some 231∨kindOf o=some 115∨kindOf o=some 110∨kindOf o=some 148∨kindOf o=some 261):=by
 obtain⟨L,R,S,O,T,h1,r⟩:=h.ex
 rcases hk with hk|rfl|rfl
 ·refine⟨h1.own.new k hk,?_⟩
  obtain⟨o,ho,hx⟩:=h1.own.st.kind k hk
  refine⟨o,ho,?_⟩
  rcases hx with e|e|e|e|e|e
  ·rcases hk with(e1|e1|e1)|e1|e1|e1
   ·rw[e1,h1.own.st.mem.row]at ho;cases ho;cases e
   ·exact Or.inl ⟨e,Or.inl e1⟩
   ·obtain⟨t,ht,e2⟩:=List.mem_map.1 e1
    obtain⟨i,hi,e3⟩:=List.getElem_of_mem ht
    have:=(h1.own.st.sets i hi).box
    rw[List.getD_eq_getElem?_getD,List.getElem?_eq_getElem hi,Option.getD_some,e3,e2,ho]at this
    cases this;cases e
   ·rw[e1,h1.own.st.box]at ho;cases ho;cases e
   ·rw[e1,h1.own.st.mem.box]at ho;cases ho;cases e
   ·obtain⟨cs,hcs⟩:=bG h1.own.st.parts e1
    rw[hcs]at ho;cases ho;cases e
  ·exact Or.inr (Or.inl e)
  ·exact Or.inr (Or.inr (Or.inl e))
  ·exact Or.inr (Or.inr (Or.inr (Or.inl e)))
  ·exact Or.inr (Or.inr (Or.inr (Or.inr (Or.inl e))))
  ·exact Or.inr (Or.inr (Or.inr (Or.inr (Or.inr (Or.inl e)))))
 ·obtain⟨es,ck,hm⟩:=h1.jo.isMap
  exact⟨h1.ns,_,hm,Or.inl ⟨rfl,Or.inr rfl⟩⟩
 ·exact⟨h1.nt,_,h1.box,Or.inr (Or.inr (Or.inr (Or.inr (Or.inr (Or.inr rfl)))))⟩
theorem bJ.facts(h:bJ W0 w tb sb X n lo hi c W Q V):lo<hi∧hi≤n∧n≤1024∧(∀f,Q f≤64)∧(∀f,Q f≠0→lo≤f∧f<hi)∧(∀f q,q<32→Q f≠0→0≤V f q∧V f q<4294967296)∧(∀r F p,W r=some F→F p=z0∨mO n (F p))∧(∀r,(W r).isSome=true→lo≤r∧r<hi∧Q r=0):=by
 obtain⟨L,R,S,O,T,h1,h2,h3,h4,h5,h6,h7,_⟩:=h.ex
 refine⟨h2.nm.1,h2.nm.2,h2.top,fun f=>?_,h7,fun f q hq h0=>?_,h2.fit,fun r hr=>?_⟩
 ·rw[h5];unfold QF
  split
  ·omega
  ·exact h1.own.st.fit.most f
 ·rw[h6 f q (by have:=h7 f h0;have:=h2.nm;omega) hq h0];exact h1.wd _
 ·obtain⟨F,hF⟩:=Option.isSome_iff_exists.1 hr
  obtain⟨k1,k2⟩:=h2.root r F hF
  refine⟨k1.1,k1.2,?_⟩
  rw[h5];unfold QF;rw[k2];rfl
theorem bJ.tabs{L L':List Int}{R R':Nat→Nat}{S':Nat→Bool}{O O':Own}{T:List (Nat×Nat)}{w':World}{W':Nat→Option Sp}{c':Nat}(hn:X.n=n)(hP:X.P=dI lo hi T)(hQ:∀f,Q f=QF R O f)(hV:∀f q,f<n→q<32→Q f≠0→V f q=L.getD (f*32+q) 0)(hr:∀f,Q f≠0→lo≤f∧f<hi)(hkw:∀f q,f<n→q<32→hi≤f→L.getD (f*32+q) 0=X.kw f q)(ht:gu W0 w w' tb sb X L' R' S')(hi':bT n lo hi L' R' S' W' O')(hl:dF lo hi R'=c')(hd:dA n hi L R O L' R' O'):mP W0 w w' tb sb X n lo hi c' W' Q V:=
 ⟨⟨⟨L',R',S',O',T,ht.st,hi',hl,hP,fun f=>(hQ f).trans (hd.ref f).symm,fun f q hf hq h0=>by rw[hV f q hf hq h0,hd.word f q hf hq (Or.inl (by rw[←hQ];exact h0))],hr,fun f q hf hq h0=>(hd.word f q hf hq (Or.inr h0)).trans (hkw f q hf hq h0)⟩,hn⟩,ht.only⟩
def RJ(W0 w:World)(tb sb:Nat)(X:bC)(n lo hi c:Nat)(W:Nat→Option Sp)(Q:Nat→Nat)(V:Nat→Nat→Int)(e:Ending)(w':World):Prop:=
 (c=0∧e= .returned (.tuple #[.int .i64 0, .int .i64 3])∧mP W0 w w' tb sb X n lo hi c W Q V)∨
 (∃x:Nat,(lo≤x∧x<hi)∧W x=none∧1≤c∧e= .returned (.tuple #[.int .i64 (x:Int), .int .i64 0])∧mP W0 w w' tb sb X n lo hi (c-1) (j6 W x (some fun _=>z0)) Q V)
theorem bJ.open_(h:bJ W0 w tb sb X n lo hi c W Q V):Calls Tryz.prog 155 #[.pointer (some ⟨tb,0,none⟩)] w (RJ W0 w tb sb X n lo hi c W Q V):=by
 obtain⟨L,R,S,O,T,k1,k2,k3,k4,k5,k6,k7,k8⟩:=h.ex
 rcases k2.zG T with⟨h0,ho⟩|⟨x,L',R',O',hx,hw,ho,hi',hl,hd⟩
 ·exact(k1.open_ k4 ho).mono fun e w' ⟨he,ht⟩=>Or.inl ⟨by omega,he,bJ.tabs h.hn k4 k5 k6 k7 k8 ht k2 k3 (dA.refl _ _ _ _)⟩
 ·exact(k1.open_ k4 ho).mono fun e w' ⟨he,ht⟩=>Or.inr ⟨x,hx,hw,by omega,he,bJ.tabs h.hn k4 k5 k6 k7 k8 ht hi' (by omega) hd⟩
theorem bJ.map(h:bJ W0 w tb sb X n lo hi c W Q V)(r pg:Int)(p x k:Bool)(g:Int)(hr:I64 r)(hp:I64 pg):
  Calls Tryz.prog 160 #[.pointer (some ⟨tb,0,none⟩), .int .i64 r, .int .i64 pg,ent p x k g] w fun e w'=>e= .returned (.int .i64 (lJ n W c r pg (p,x,k,g)))∧mP W0 w w' tb sb X n lo hi (acK n c W r pg (p,x,k,g)) (acL n c W r pg (p,x,k,g)) Q V:=by
 obtain⟨L,R,S,O,T,k1,k2,rfl,k4,k5,k6,k7,k8⟩:=h.ex
 obtain⟨L',R',O',ho,y1,y2,y3⟩:=k2.ah3 T r pg (p,x,k,g)
 refine(k1.ah1 h.hn k4 hr hp ho).mono fun e w' ⟨he,ht⟩=>⟨he,?_⟩
 unfold acK acL
 by_cases h0:lJ n W (dF lo hi R) r pg (p,x,k,g)=0
 ·obtain⟨i1,i2⟩:=y1 h0
  rw[if_pos h0,if_pos h0]
  exact bJ.tabs h.hn k4 k5 k6 k7 k8 ht i1 (by omega) y3
 ·obtain⟨i1,rfl⟩:=y2 h0
  rw[if_neg h0,if_neg h0]
  exact bJ.tabs h.hn k4 k5 k6 k7 k8 ht i1 rfl y3
theorem bJ.set(h:bJ W0 w tb sb X n lo hi c W Q V)(r pg:Int)(p x k:Bool)(g:Int)(hr:I64 r)(hp:I64 pg):
  Calls Tryz.prog 161 #[.pointer (some ⟨tb,0,none⟩), .int .i64 r, .int .i64 pg,ent p x k g] w fun e w'=>e= .returned (.int .i64 (jc n W r pg (p,x,k,g)))∧mP W0 w w' tb sb X n lo hi c (setW n W r pg (p,x,k,g)) Q V:=by
 obtain⟨L,R,S,O,T,k1,k2,k3,k4,k5,k6,k7,k8⟩:=h.ex
 obtain⟨ho,y1,y2,y3⟩:=k2.Wn r pg (p,x,k,g)
 refine(k1.ah2 h.hn hr hp ho rfl).mono fun e w' ⟨he,ht⟩=>⟨he,?_⟩
 unfold setW
 by_cases h0:jc n W r pg (p,x,k,g)=0
 ·rw[if_pos h0]
  exact bJ.tabs h.hn k4 k5 k6 k7 k8 ht (y1 h0) k3 y3
 ·rw[if_neg h0]
  rw[y2 h0]at ht y3
  exact bJ.tabs h.hn k4 k5 k6 k7 k8 ht k2 k3 y3
theorem bJ.unmap(h:bJ W0 w tb sb X n lo hi c W Q V)(r pg:Int)(hr:I64 r)(hp:I64 pg){p x k:Bool}{g:Int}(he:Ce W r pg=(p,x,k,g)):
  Calls Tryz.prog 142 #[.pointer (some ⟨tb,0,none⟩), .int .i64 r, .int .i64 pg] w fun e w'=>e= .returned (.tuple #[ent p x k g, .int .i64 (eu W r pg)])∧mP W0 w w' tb sb X n lo hi (acM c W r pg) (acN W r pg) Q V:=by
 obtain⟨L,R,S,O,T,k1,k2,rfl,k4,k5,k6,k7,k8⟩:=h.ex
 obtain⟨L',R',O',ho,y1,y2,y3⟩:=k2.ah4 T r pg
 unfold Ce at he
 rw[he]at ho
 refine(k1.acE h.hn k4 hr hp ho).mono fun e w' ⟨he,ht⟩=>⟨he,?_⟩
 unfold acM acN
 by_cases h0:eu W r pg=0
 ·obtain⟨i1,i2⟩:=y1 h0
  rw[if_pos h0,if_pos h0]
  exact bJ.tabs h.hn k4 k5 k6 k7 k8 ht i1 i2 y3
 ·obtain⟨i1,rfl⟩:=y2 h0
  rw[if_neg h0,if_neg h0]
  exact bJ.tabs h.hn k4 k5 k6 k7 k8 ht i1 rfl y3
theorem bJ.query(h:bJ W0 w tb sb X n lo hi c W Q V)(r pg:Int)(hr:I64 r)(hp:I64 pg){p x k:Bool}{g:Int}(he:Ce W r pg=(p,x,k,g)):
  Calls Tryz.prog 136 #[.pointer (some ⟨tb,0,none⟩), .int .i64 r, .int .i64 pg] w fun e w'=>e= .returned (.tuple #[ent p x k g, .bool (decide (eu W r pg=0))])∧Below w.heap.size w w':=by
 obtain⟨L,R,S,O,T,k1,k2,_⟩:=h.ex
 refine k1.acF h.hn hr hp ?_
 rw[k2.ah5,←he]
 unfold Ce
 by_cases h0:eu W r pg=0
 ·simp[h0]
 ·simp[h0]
theorem bJ.close(h:bJ W0 w tb sb X n lo hi c W Q V)(r:Int)(hr:I64 r):
  Calls Tryz.prog 109 #[.pointer (some ⟨tb,0,none⟩), .int .i64 r] w fun e w'=>e= .returned (.int .i64 (kK W r))∧mP W0 w w' tb sb X n lo hi (acO c W r) (acP W r) Q V:=by
 obtain⟨L,R,S,O,T,k1,k2,rfl,k4,k5,k6,k7,k8⟩:=h.ex
 obtain⟨R',S',O',ho,y1,y2,y3⟩:=k2.ah6 T r
 refine(k1.close_ h.hn k4 hr ho).mono fun e w' ⟨he,ht⟩=>⟨he,?_⟩
 unfold acO acP
 by_cases h0:kK W r=0
 ·obtain⟨i1,i2⟩:=y1 h0
  rw[if_pos h0,if_pos h0]
  exact bJ.tabs h.hn k4 k5 k6 k7 k8 ht i1 i2 y3
 ·obtain⟨rfl,rfl⟩:=y2 h0
  rw[if_neg h0,if_neg h0]
  exact bJ.tabs h.hn k4 k5 k6 k7 k8 ht k2 rfl (dA.refl _ _ _ _)
theorem bJ.tables(h:bJ W0 w tb sb X n lo hi c W Q V)(r:Int)(hr:I64 r):
  Calls Tryz.prog 156 #[.pointer (some ⟨tb,0,none⟩), .int .i64 r] w fun e w'=>e= .returned (.int .i64 (Km W r:Int))∧Below w.heap.size w w':=by
 obtain⟨L,R,S,O,T,k1,k2,_⟩:=h.ex
 refine k1.ZE h.hn hr ?_
 rw[k2.ah7]
theorem bJ.all(h:bJ W0 w tb sb X n lo hi c W Q V)(r:Int)(hr:I64 r):
  Calls Tryz.prog 157 #[.pointer (some ⟨tb,0,none⟩), .int .i64 r] w (wU w (ZI W r)):=by
 obtain⟨L,R,S,O,T,k1,k2,_⟩:=h.ex
 have:=Zz k1 r hr
 rw[h.hn,k2.ah8]at this
 exact this
theorem bJ.left(h:bJ W0 w tb sb X n lo hi c W Q V):Calls Tryz.prog 35 #[.pointer (some ⟨X.pb,0,none⟩), .int .i64 0] w fun e w'=>e= .returned (.int .i64 (c:Int))∧Below w.heap.size w w':=by
 obtain⟨L,R,S,O,T,k1,k2,rfl,k4,_⟩:=h.ex
 refine Zi (X:=X) ?_ k1.own.st
 rw[k4];exact Wi T lo hi R
theorem KG{R:Nat→Nat}{O:Own}{f:Nat}(h:QF R O f≠0):O f=none∧QF R O f=R f:=by
 unfold QF at h ⊢
 cases ho:O f with
 |none=>exact⟨rfl,rfl⟩
 |some v=>rw[ho]at h;exact absurd rfl h
theorem NA{R:Nat→Nat}{O:Own}{f v:Nat}(h:O f=none)(g:Nat):QF (upd R f v) O g=upd (QF R O) f v g:=by
 unfold QF
 by_cases e:g=f
 ·subst e;rw[h,upd_same,upd_same];rfl
 ·rw[aC _ _ _ _ e,aC _ _ _ _ e]
theorem bJ.refs(h:bJ W0 w tb sb X n lo hi c W Q V)(f:Nat)(h0:Q f≠0):Calls Tryz.prog 189 #[.pointer (some ⟨X.pb,0,none⟩), .int .i64 (f:Int)] w fun e w'=>e= .returned (.int .i64 (Q f:Int))∧w=w':=by
 obtain⟨L,R,S,O,T,k1,k2,rfl,k4,k5,k6,k7,k8⟩:=h.ex
 have:=k7 f h0
 have:=k2.nm
 have:=k2.top
 refine Zh ?_ k1.own.st (by unfold I64;omega)
 rw[nP,k5 f]
 rw[k5]at h0
 rw[(KG h0).2]
def jJ(V:Nat→Nat→Int)(x:Nat):Nat→Nat→Int:=fun f q=>if f=x then 0 else V f q
def NG(W0 w:World)(tb sb:Nat)(X:bC)(n lo hi c:Nat)(W:Nat→Option Sp)(Q:Nat→Nat)(V:Nat→Nat→Int)(e:Ending)(w':World):Prop:=
 ∃x:Nat,(lo≤x∧x<hi)∧Q x=0∧W x=none∧e= .returned (.tuple #[.int .i64 (x:Int), .int .i64 0])∧mP W0 w w' tb sb X n lo hi (c-1) W (upd Q x 1) (jJ V x)
theorem bJ.alloc(h:bJ W0 w tb sb X n lo hi c W Q V)(hc:c≠0):Calls Tryz.prog 185 #[.pointer (some ⟨X.pb,0,none⟩), .int .i64 0] w (NG W0 w tb sb X n lo hi c W Q V):=by
 obtain⟨L,R,S,O,T,k1,k2,rfl,k4,k5,k6,k7,k8⟩:=h.ex
 obtain⟨x,hx,hr0,a,b,cc,d⟩:=vN T hc L
 have hn:=k2.nm
 have hO:=k2.free hr0
 rw[←k4]at a b cc
 have hw:=sQ k1.own.st.fit k1.own.st.mem.len k1.wd
 rw[b]at hw
 refine(BJ a b cc k1.own.st k1.own.table).mono fun e w' ⟨he,hm⟩=>?_
 have ht:=k1.move hm hw
 have hxn:∀f,(O f).isSome=true→f≠x:=fun f hf e=>by rw[e,hO]at hf;cases hf
 refine⟨x,hx,by rw[k5];unfold QF;rw[hO,hr0];rfl,?_,he,⟨⟨_,_,S,O,T,ht.st,k2.other (gP k2.len (by omega) (by decide)) (fun f hf=>aC _ _ _ _ (hxn f hf)) (fun f q hf hq=>?_),by omega,k4,fun f=>?_,fun f q hf hq h0=>?_,fun f h0=>?_,fun f q hf hq h0=>by rw[nV _ _ _ (by rw[k2.len];omega),if_neg (by omega),k8 f q hf hq h0]⟩,h.hn⟩,ht.only⟩
 ·cases hw':W x with
  |none=>rfl
  |some F=>have:=(k2.root x F hw').2;rw[hO]at this;cases this
 ·have:=hxn f hf
  rw[nV _ _ _ (by rw[k2.len];omega),if_neg (by omega)]
 ·rw[NA hO]
  unfold upd
  split
  ·rfl
  ·exact k5 f
 ·unfold jJ
  by_cases e:f=x
  ·subst e
   rw[if_pos rfl,nV _ _ _ (by rw[k2.len];omega),if_pos ⟨by omega,by omega⟩]
  ·rw[aC _ _ _ _ e]at h0
   rw[if_neg e,nV _ _ _ (by rw[k2.len];omega),if_neg (by omega),k6 f q hf hq h0]
 ·by_cases e:f=x
  ·subst e;exact hx
  ·rw[aC _ _ _ _ e]at h0;exact k7 f h0
theorem bJ.share(h:bJ W0 w tb sb X n lo hi c W Q V)(f:Nat)(h0:Q f≠0)(h1:Q f<64):Calls Tryz.prog 162 #[.pointer (some ⟨X.pb,0,none⟩), .int .i64 (f:Int)] w fun e w'=>e= .returned (.int .i64 0)∧mP W0 w w' tb sb X n lo hi c W (upd Q f (Q f+1)) V:=by
 obtain⟨L,R,S,O,T,k1,k2,rfl,k4,k5,k6,k7,k8⟩:=h.ex
 have hf:=k7 f h0
 have hn:=k2.nm
 have ht:=k2.top
 have h0':=h0
 rw[k5]at h0'
 obtain⟨hO,hQ⟩:=KG h0'
 have hR:R f≠0:=by rw[←hQ];exact h0'
 have hQR:Q f=R f:=(k5 f).trans hQ
 have hE:jH X.P R (f:Int)=0:=by
  unfold jH;rw[k4,Wj T hf hR,if_pos rfl,nP,if_neg (by omega)]
 have hS:nQ X.P R (f:Int)=upd R f (R f+1):=by unfold nQ;rw[if_pos hE,Int.toNat_natCast]
 refine(Vz hE hS k1.own.st (by unfold I64;omega)).mono fun e w' ⟨he,hm⟩=>⟨he,?_⟩
 have ht:=k1.move hm k1.wd
 have hxn:∀g,(O g).isSome=true→g≠f:=fun g hg e=>by rw[e,hO]at hg;cases hg
 refine⟨⟨⟨L,_,S,O,T,ht.st,k2.other k2.len (fun g hg=>aC _ _ _ _ (hxn g hg)) (fun _ _ _ _=>rfl),?_,k4,fun g=>?_,fun g q hg hq h2=>?_,fun g h2=>?_,k8⟩,h.hn⟩,ht.only⟩
 ·unfold dF;rw[qH _ _ _ _ hR (by omega)]
 ·rw[NA hO,hQR]
  unfold upd
  split
  ·rfl
  ·exact k5 g
 ·by_cases e:g=f
  ·subst e;exact k6 g q hg hq h0
  ·rw[aC _ _ _ _ e]at h2;exact k6 g q hg hq h2
 ·by_cases e:g=f
  ·subst e;exact hf
  ·rw[aC _ _ _ _ e]at h2;exact k7 g h2
theorem bJ.free(h:bJ W0 w tb sb X n lo hi c W Q V)(f:Nat)(h0:Q f≠0):Calls Tryz.prog 143 #[.pointer (some ⟨X.pb,0,none⟩), .int .i64 (f:Int)] w fun e w'=>e= .returned (.int .i64 0)∧mP W0 w w' tb sb X n lo hi (if Q f=1 then c+1 else c) W (upd Q f (Q f-1)) V:=by
 obtain⟨L,R,S,O,T,k1,k2,rfl,k4,k5,k6,k7,k8⟩:=h.ex
 have hf:=k7 f h0
 have hn:=k2.nm
 have ht:=k2.top
 have h0':=h0
 rw[k5]at h0'
 obtain⟨hO,hQ⟩:=KG h0'
 have hR:R f≠0:=by rw[←hQ];exact h0'
 have hQR:Q f=R f:=(k5 f).trans hQ
 have hE:eX X.P R (f:Int)=0:=by rw[k4,Wj T hf hR]
 have hS:l7 X.P R (f:Int)=upd R f (R f-1):=by rw[k4,Wm T hf hR]
 refine(OT hE hS k1.own.st (by unfold I64;omega)).mono fun e w' ⟨he,hm⟩=>⟨he,?_⟩
 have ht:=k1.move hm k1.wd
 have hxn:∀g,(O g).isSome=true→g≠f:=fun g hg e=>by rw[e,hO]at hg;cases hg
 refine⟨⟨⟨L,_,S,O,T,ht.st,k2.other k2.len (fun g hg=>aC _ _ _ _ (hxn g hg)) (fun _ _ _ _=>rfl),?_,k4,fun g=>?_,fun g q hg hq h2=>?_,fun g h2=>?_,k8⟩,h.hn⟩,ht.only⟩
 ·rw[hQR]
  by_cases e1:R f=1
  ·rw[if_pos e1,e1];exact Ci hf hR
  ·rw[if_neg e1];unfold dF;rw[qH _ _ _ _ hR (by omega)]
 ·rw[NA hO,hQR]
  unfold upd
  split
  ·rfl
  ·exact k5 g
 ·by_cases e:g=f
  ·subst e;exact k6 g q hg hq h0
  ·rw[aC _ _ _ _ e]at h2;exact k6 g q hg hq h2
 ·by_cases e:g=f
  ·subst e;exact hf
  ·rw[aC _ _ _ _ e]at h2;exact k7 g h2
theorem bJ.read(h:bJ W0 w tb sb X n lo hi c W Q V)(f q:Nat)(h0:Q f≠0)(hq:q<32):Calls Tryz.prog 76 #[.pointer (some ⟨X.mp,0,none⟩), .int .i64 (f:Int), .int .i64 (q:Int)] w fun e w'=>e= .returned (.tuple #[.int .u32 (V f q), .int .i64 0])∧Below w.heap.size w w':=by
 obtain⟨L,R,S,O,T,k1,k2,rfl,k4,k5,k6,k7,k8⟩:=h.ex
 have hf:=k7 f h0
 have hn:=k2.nm
 rw[k6 f q (by omega) hq h0]
 exact Ol X.mp X.fb X.n f q L w k1.own.st.mem (by rw[h.hn];omega) hq
theorem bJ.puts{L L':List Int}{R:Nat→Nat}{S:Nat→Bool}{O:Own}{T:List (Nat×Nat)}{w':World}{V':Nat→Nat→Int}(hn:X.n=n)(k1:Mg W0 w tb sb X L R S)(k2:bT n lo hi L R S W O)(hP:X.P=dI lo hi T)(hQ:∀f,Q f=QF R O f)(hr:∀f,Q f≠0→lo≤f∧f<hi)(hp:Puts w w' X.mp X.fb X.n L')(hl:L'.length=n*32)(hw:Words L')(hO:∀f q,(O f).isSome=true→q<32→L'.getD (f*32+q) 0=L.getD (f*32+q) 0)(hV:∀f q,f<n→q<32→Q f≠0→V' f q=L'.getD (f*32+q) 0)(hkw:∀f q,f<n→q<32→hi≤f→L'.getD (f*32+q) 0=X.kw f q):mP W0 w w' tb sb X n lo hi (dF lo hi R) W Q V':=by
 have hm:Moves w w' X L' R:=⟨(k1.own.st.toG.acn hp).Nt k1.own.st.fit (fun _ _=>rfl),Only.grown hp.grown (Or.inl rfl)⟩
 have ht:=k1.move hm hw
 exact⟨⟨⟨L',R,S,O,T,ht.st,k2.other hl (fun _ _=>rfl) hO,rfl,hP,hQ,hV,hr,hkw⟩,hn⟩,ht.only⟩
def vO(V:Nat→Nat→Int)(f q:Nat)(v:Int):Nat→Nat→Int:=fun g j=>if g=f∧j=q then v else V g j
theorem bJ.write(h:bJ W0 w tb sb X n lo hi c W Q V)(f q:Nat)(v:Int)(h0:Q f≠0)(hq:q<32)(hv:0≤v∧v<4294967296):Calls Tryz.prog 87 #[.pointer (some ⟨X.mp,0,none⟩), .int .i64 (f:Int), .int .i64 (q:Int), .int .u32 v] w fun e w'=>e= .returned (.int .i64 0)∧mP W0 w w' tb sb X n lo hi c W Q (vO V f q v):=by
 obtain⟨L,R,S,O,T,k1,k2,rfl,k4,k5,k6,k7,k8⟩:=h.ex
 have hf:=k7 f h0
 have hn:=k2.nm
 have hO:O f=none:=(KG (by rw[←k5];exact h0)).1
 refine(Au X.mp X.fb X.n f q L v w k1.own.st.mem (by rw[h.hn];omega) hq).mono fun e w' ⟨he,hp⟩=>⟨he,?_⟩
 refine bJ.puts h.hn k1 k2 k4 k5 k7 hp (by rw[List.length_set];exact k2.len) (E8 k1.wd _ _ (by rw[k2.len];omega) hv) (fun g j hg hj=>?_) (fun g j hg hj h2=>?_) (fun g j hg hj h2=>by rw[lG _ _ _ _ (by rw[k2.len];omega),if_neg (by omega),k8 g j hg hj h2])
 ·have:g≠f:=fun e=>by rw[e,hO]at hg;cases hg
  rw[lG _ _ _ _ (by rw[k2.len];omega),if_neg (by omega)]
 ·rw[lG _ _ _ _ (by rw[k2.len];omega)]
  unfold vO
  by_cases e:g=f∧j=q
  ·rw[if_pos e,if_pos (by omega)]
  ·rw[if_neg e,if_neg (by omega),k6 g j hg hj h2]
def copyV(V:Nat→Nat→Int)(x f:Nat):Nat→Nat→Int:=fun g j=>if g=x then V f j else V g j
theorem Fu(L:List Int)(f j:Nat)(hj:j<32):(rowOf L f).getD j 0=L.getD (f*32+j) 0:=by
 simp only[rowOf,List.getD_eq_getElem?_getD,List.getElem?_take,if_pos hj,List.getElem?_drop]
theorem Fv(L K:List Int)(f i:Nat)(hK:K.length=32)(hf:f*32+32≤L.length):(putRow L f K).getD i 0=if f*32≤i∧i<f*32+32 then K.getD (i-f*32) 0 else L.getD i 0:=by
 have hl:(L.take (f*32)).length=f*32:=by rw[List.length_take];omega
 simp only[putRow,List.getD_eq_getElem?_getD]
 by_cases h1:i<f*32
 ·rw[List.append_assoc,List.getElem?_append_left (by rw[hl];exact h1),List.getElem?_take,if_pos h1,if_neg (by omega)]
 ·by_cases h2:i<f*32+32
  ·rw[List.append_assoc,List.getElem?_append_right (by rw[hl];omega),hl,List.getElem?_append_left (by rw[hK];omega),if_pos ⟨by omega,h2⟩]
  ·rw[List.append_assoc,List.getElem?_append_right (by rw[hl];omega),hl,List.getElem?_append_right (by rw[hK];omega),if_neg (by omega),List.getElem?_drop,hK,show f*32+32+(i-f*32-32)=i by omega]
theorem bJ.copy(h:bJ W0 w tb sb X n lo hi c W Q V)(x f:Nat)(h0:Q f≠0)(h1:Q x≠0):Calls Tryz.prog 238 #[.pointer (some ⟨X.mp,0,none⟩), .int .i64 (x:Int), .int .i64 (f:Int)] w fun e w'=>e= .returned (.int .i64 0)∧mP W0 w w' tb sb X n lo hi c W Q (copyV V x f):=by
 obtain⟨L,R,S,O,T,k1,k2,rfl,k4,k5,k6,k7,k8⟩:=h.ex
 have hf:=k7 f h0
 have hx:=k7 x h1
 have hn:=k2.nm
 have hO:O x=none:=(KG (by rw[←k5];exact h1)).1
 have hK:(rowOf L f).length=32:=d9 k2.len (by omega)
 have hG:∀g j,g<n→j<32→(putRow L x (rowOf L f)).getD (g*32+j) 0=if g=x then L.getD (f*32+j) 0 else L.getD (g*32+j) 0:=fun g j hg hj=>by
  rw[Fv _ _ _ _ hK (by rw[k2.len];omega)]
  by_cases e:g=x
  ·subst e;rw[if_pos ⟨by omega,by omega⟩,if_pos rfl,show g*32+j-g*32=j by omega,Fu _ _ _ hj]
  ·rw[if_neg (by omega),if_neg e]
 have hG2:∀i,(putRow L x (rowOf L f)).getD i 0=if x*32≤i∧i<x*32+32 then L.getD (f*32+(i-x*32)) 0 else L.getD i 0:=fun i=>by
  rw[Fv _ _ _ _ hK (by rw[k2.len];omega)]
  split
  ·rw[Fu _ _ _ (by omega)]
  ·rfl
 refine(Yr X.mp X.fb X.n f x L w k1.own.st.mem (by rw[h.hn];omega) (by rw[h.hn];omega)).mono fun e w' ⟨he,hp⟩=>⟨he,?_⟩
 refine bJ.puts h.hn k1 k2 k4 k5 k7 hp (gP k2.len (by omega) hK) (fun i=>?_) (fun g j hg hj=>?_) (fun g j hg hj h2=>?_) (fun g j hg hj h2=>by rw[hG g j hg hj,if_neg (by omega),k8 g j hg hj h2])
 ·rw[hG2]
  split
  ·exact k1.wd _
  ·exact k1.wd _
 ·have h3:g≠x:=fun e=>by rw[e,hO]at hg;cases hg
  have:=(k2.low g hg).2
  rw[hG g j (by omega) hj,if_neg h3]
 ·rw[hG g j hg hj]
  unfold copyV
  by_cases e:g=x
  ·rw[if_pos e,if_pos e,k6 f j (by omega) hj h0]
  ·rw[if_neg e,if_neg e,k6 g j hg hj h2]
end
end Go.Proofs.YtammlljefhakmaaGreatDoor
