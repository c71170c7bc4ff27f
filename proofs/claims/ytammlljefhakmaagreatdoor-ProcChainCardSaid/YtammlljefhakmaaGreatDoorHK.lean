/- Helps of the proof. No condition. -/
import Derived.Test.YtammlljefhakmaaGreatDoorGP
namespace Go.Proofs.YtammlljefhakmaaGreatDoor
open Go.RowKit
set_option maxRecDepth 100000
structure bS(n lo hi:Nat)(L:List Int)(R:Nat→Nat)(S:Nat→Bool)(W:Nat→Option Sp)(O:Own):Prop where
 len:L.length=n*32
 nm:lo<hi∧hi≤n
 top:n≤1024
 sp:∀r:Nat,S r=(W r).isSome
 root:∀(r:Nat) (F:Sp),W r=some F→(lo≤r∧r<hi)∧O r=some (r,none)
 yes:∀(r:Nat) (F:Sp) (i:Nat),W r=some F→i<32→hasB F i=true→∃g:Nat,(lo≤g∧g<hi)∧O g=some (r,some i)∧dV n L (r:Int) (i:Int)=some (true,false,false,(g:Int))∧∀j:Nat,j<32→dV n L (g:Int) (j:Int)=some (F (32*i+j))
 no:∀(r:Nat) (F:Sp) (i:Nat),W r=some F→i<32→hasB F i=false→dV n L (r:Int) (i:Int)=some z0
 fit:∀(r:Nat) (F:Sp) (p:Nat),W r=some F→F p=z0∨mU n (F p)
 held:∀f:Nat,(O f).isSome=true→R f=1
 low:∀f:Nat,(O f).isSome→(lo≤f∧f<hi)
def QF(R:Nat→Nat)(O:Own)(f:Nat):Nat:=if(O f).isSome=true then 0 else R f
structure dz(n hi:Nat)(L:List Int)(R:Nat→Nat)(O:Own)(L':List Int)(R':Nat→Nat)(O':Own):Prop where
 ref:∀f,QF R' O' f=QF R O f
 word:∀f q,f<n→q<32→QF R O f≠0∨hi≤f→L'.getD (f*32+q) 0=L.getD (f*32+q) 0
theorem dz.refl{hi:Nat}(n:Nat)(L:List Int)(R:Nat→Nat)(O:Own):dz n hi L R O L R O:=⟨fun _=>rfl,fun _ _ _ _ _=>rfl⟩
theorem dz.trans{n hi:Nat}{L L' L2:List Int}{R R' R2:Nat→Nat}{O O' O2:Own}(h:dz n hi L R O L' R' O')(k:dz n hi L' R' O' L2 R2 O2):dz n hi L R O L2 R2 O2:=
 ⟨fun f=>(k.ref f).trans (h.ref f),fun f q hf hq h0=>(k.word f q hf hq (by rw[h.ref];exact h0)).trans (h.word f q hf hq h0)⟩
theorem dz.put{n hi:Nat}{L:List Int}{R:Nat→Nat}{O:Own}{g q:Nat}{e:fQ}(hl:L.length=n*32)(hg:(g<n∧g<hi)∧q<32)(ho:(O g).isSome=true):dz n hi L R O (kK L g q e) R O:=
 ⟨fun _=>rfl,fun f q' hf hq h0=>by
  have hne:f≠g:=by
   rintro rfl
   rcases h0 with h0|h0
   ·unfold QF at h0;rw[if_pos ho]at h0;exact h0 rfl
   ·omega
  rw[kK,lF _ _ _ _ (by rw[hl];omega),if_neg (by omega)]⟩
theorem dz.take{n hi:Nat}{L:List Int}{R:Nat→Nat}{O:Own}{x:Nat}(hl:L.length=n*32)(hx:x<n∧x<hi)(h0:R x=0)(ho:O x=none)(v:Nat×Option Nat):dz n hi L R O (putRow L x zeros) (upd R x 1) (j6 O x (some v)):=
  ⟨fun f=>by
    unfold QF
    by_cases e:f=x
    · subst e;rw[aQ,ho,h0];rfl
    · rw[au _ _ _ _ e,aB _ _ _ _ e],
   fun f q hf hq hQ=>by
    have hne:f≠x:=by
      rintro rfl
      rcases hQ with hQ|hQ
      · unfold QF at hQ;rw[ho,h0]at hQ;exact hQ rfl
      · omega
    rw[nW _ _ _ (by rw[hl];omega),if_neg (by omega)]⟩
theorem dz.drop{n hi:Nat}{L:List Int}{R:Nat→Nat}{O:Own}{g:Nat}(ho:(O g).isSome=true):dz n hi L R O L (upd R g 0) (j6 O g none):=
 ⟨fun f=>by
  unfold QF
  by_cases e:f=g
  ·subst e;rw[aQ,upd_same,if_pos ho];rfl
  ·rw[au _ _ _ _ e,aB _ _ _ _ e],fun _ _ _ _ _=>rfl⟩
theorem bS.find{n lo hi:Nat}{L:List Int}{R:Nat→Nat}{S:Nat→Bool}{W:Nat→Option Sp}{O:Own}(h:bS n lo hi L R S W O){r:Nat}{F:Sp}(hr:W r=some F)(p:Nat)(hp:p<1024):
  (hasB F (p/32)=true∧∃g:Nat,(lo≤g∧g<hi)∧O g=some (r,some (p/32))∧dV n L (r:Int) ((p/32:Nat):Int)=some (true,false,false,(g:Int))∧dB n L (r:Int) (p:Int)=((true,false,false,(g:Int)),F p))∨(hasB F (p/32)=false∧F p=z0∧dB n L (r:Int) (p:Int)=(z0,z0)):=by
 have e1:(p:Int)/32=((p/32:Nat):Int):=by omega
 have e2:(p:Int)%32=((p%32:Nat):Int):=by omega
 cases hh:hasB F (p/32)with
 |true=>
  obtain⟨g,hg,ho,h1,h2⟩:=h.yes r F (p/32) hr (by omega) hh
  refine Or.inl ⟨rfl,g,hg,ho,h1,?_⟩
  have h3:=h2 (p%32) (by omega)
  rw[show 32*(p/32)+p%32=p by omega]at h3
  unfold dB
  rw[e1,e2,fD h1,if_pos rfl]
  rw[fD h3]
 | false=>
  have h1:=h.no r F (p/32) hr (by omega) hh
  refine Or.inr ⟨rfl,?_,?_⟩
  ·rcases h.fit r F p hr with hz|hf
   ·exact hz
   ·have:=aaj hf.1;rw[hh]at this;cases this
  ·unfold dB
   rw[e1,fD h1,if_neg (by decide)]
theorem bS.Qc{n lo hi:Nat}{L:List Int}{R:Nat→Nat}{S:Nat→Bool}{W:Nat→Option Sp}{O:Own}(h:bS n lo hi L R S W O){r:Nat}{F:Sp}(hr:W r=some F)(p:Nat)(hp:p<1024):(dB n L (r:Int) (p:Int)).2=F p:=by
 rcases h.find hr p hp with⟨_,g,_,_,_,e⟩|⟨_,hz,e⟩
 ·rw[e]
 ·rw[e,hz]
theorem bS.free{n lo hi:Nat}{L:List Int}{R:Nat→Nat}{S:Nat→Bool}{W:Nat→Option Sp}{O:Own}(h:bS n lo hi L R S W O){x:Nat}(h0:R x=0):O x=none:=by
 cases ho:O x with
 |none=>rfl
 |some v=>have:=h.held x (by rw[ho];rfl);omega
theorem bS.pos{n lo hi:Nat}{L:List Int}{R:Nat→Nat}{S:Nat→Bool}{W:Nat→Option Sp}{O:Own}(h:bS n lo hi L R S W O):0<n:=by have:=h.nm;omega
theorem bS.open_{n lo hi:Nat}{L:List Int}{R:Nat→Nat}{S:Nat→Bool}{W:Nat→Option Sp}{O:Own}(h:bS n lo hi L R S W O){x:Nat}(hx:(lo≤x∧x<hi))(h0:R x=0):
  bS n lo hi (putRow L x zeros) (upd R x 1) (pY S x true) (j6 W x (some fun _=>z0)) (j6 O x (some (x,none)))∧W x=none:=by
 have ho:=h.free h0
 have hn:=h.nm
 have hw:W x=none:=by
  cases hw:W x with
  |none=>rfl
  |some F=>have:=(h.root x F hw).2;rw[ho]at this;cases this
 have hz:∀i,hasB (fun _=>z0) i=false:=fun i=>by
  cases hh:hasB (fun _=>z0) i with
  |false=>rfl
  |true=>obtain⟨j,_,hj⟩:=(jv _ _).1 hh;cases hj
 refine⟨⟨gQ h.len (by omega) (by decide),hn,h.top,fun r=>?_,fun r F hr=>?_,fun r F i hr hi hh=>?_,fun r F i hr hi hh=>?_,fun r F p hr=>?_,fun f=>?_,fun f hf=>?_⟩,hw⟩
 ·unfold pY j6
  split
  ·rfl
  ·exact h.sp r
 ·by_cases e:r=x
  ·subst e;exact⟨hx,aQ _ _ _⟩
  ·rw[au _ _ _ _ e]at hr
   rw[au _ _ _ _ e]
   exact h.root r F hr
 ·by_cases e:r=x
  ·subst e;rw[aQ]at hr;cases hr;rw[hz]at hh;cases hh
  ·rw[au _ _ _ _ e]at hr
   obtain⟨g,hg,hog,h1,h2⟩:=h.yes r F i hr hi hh
   have hgx:g≠x:=by rintro rfl;rw[ho]at hog;cases hog
   have hrm:=(h.root r F hr).1
   refine⟨g,hg,by rw[au _ _ _ _ hgx];exact hog,by rw[jC h.len (by omega) (by omega) hi e];exact h1,fun j hj=>by rw[jC h.len (by omega) (by omega) hj hgx];exact h2 j hj⟩
 ·by_cases e:r=x
  ·subst e;exact sZ h.len (by omega) hi
  ·rw[au _ _ _ _ e]at hr
   have hrm:=(h.root r F hr).1
   rw[jC h.len (by omega) (by omega) hi e]
   exact h.no r F i hr hi hh
 ·by_cases e:r=x
  ·subst e;rw[aQ]at hr;cases hr;exact Or.inl rfl
  ·rw[au _ _ _ _ e]at hr
   exact h.fit r F p hr
 ·intro hf
  by_cases e:f=x
  ·subst e;exact upd_same _ _ _
  ·rw[au _ _ _ _ e]at hf;rw[aB _ _ _ _ e];exact h.held f hf
 ·by_cases e:f=x
  ·subst e;exact hx
  ·rw[au _ _ _ _ e]at hf;exact h.low f hf
theorem bS.page{n lo hi:Nat}{L:List Int}{R:Nat→Nat}{S:Nat→Bool}{W:Nat→Option Sp}{O:Own}(h:bS n lo hi L R S W O){r:Nat}{F:Sp}(hr:W r=some F){p g:Nat}(hp:p<1024)(hg:(lo≤g∧g<hi))(hog:O g=some (r,some (p/32)))(hent:dV n L (r:Int) ((p/32:Nat):Int)=some (true,false,false,(g:Int)))(hh:hasB F (p/32)=true){e:fQ}(he:e=z0∨mU n e)(hh':hasB (aI F p e) (p/32)=true):
  bS n lo hi (kK L g (p%32) e) R S (j6 W r (some (aI F p e))) O:=by
 have hn:=h.nm
 obtain⟨ok,hlo⟩:=IJ h.pos he
 obtain⟨hrm,hor⟩:=h.root r F hr
 have hrg:r≠g:=by rintro rfl;rw[hor]at hog;cases hog
 obtain⟨g2,hg2,aff,h1,h2⟩:=h.yes r F (p/32) hr (by omega) hh
 have far:∀f q:Nat,(lo≤f∧f<hi)→q<32→f≠g→dV n (kK L g (p%32) e) (f:Int) (q:Int)=dV n L (f:Int) (q:Int):=fun f q hf hq hne=>bQ h.len (by omega) (by omega) (by omega) hq (Or.inl hne)
 refine⟨by rw[iL];exact h.len,hn,h.top,fun r'=>?_,fun r' F' hr'=>?_,fun r' F' i hr' hi hhi=>?_,fun r' F' i hr' hi hhi=>?_,fun r' F' p' hr'=>?_,h.held,h.low⟩
 ·rw[h.sp r']
  by_cases e':r'=r
  ·subst e';rw[aQ,hr];rfl
  ·rw[au _ _ _ _ e']
 ·by_cases e':r'=r
  ·subst e';exact⟨hrm,hor⟩
  ·rw[au _ _ _ _ e']at hr';exact h.root r' F' hr'
 ·by_cases e':r'=r
  ·subst e'
   rw[aQ]at hr'
   cases hr'
   by_cases ei:i=p/32
   ·subst ei
    obtain rfl:g2=g:=by rw[hent]at h1;simp at h1;omega
    refine⟨g2,hg2,aff,by rw[far _ _ hrm hi hrg];exact h1,fun j hj=>?_⟩
    by_cases ej:j=p%32
    ·rw[ej,iM h.len (by omega) (by omega) ok hlo,show 32*(p/32)+p%32=p by omega,aC]
    ·rw[bQ h.len (by omega) (by omega) (by omega) hj (Or.inr ej),aA _ _ _ _ (by omega)]
     exact h2 j hj
   ·rw[nX _ _ _ _ ei]at hhi
    obtain⟨g',hg',iN,k1,k2⟩:=h.yes r' F i hr hi hhi
    have hgg:g'≠g:=by rintro rfl;rw[hog]at iN;cases iN;exact ei rfl
    exact⟨g',hg',iN,by rw[far _ _ hrm hi hrg];exact k1,fun j hj=>by rw[far _ _ hg' hj hgg,aA _ _ _ _ (by omega)];exact k2 j hj⟩
  ·rw[au _ _ _ _ e']at hr'
   obtain⟨g',hg',iN,k1,k2⟩:=h.yes r' F' i hr' hi hhi
   have hgg:g'≠g:=by rintro rfl;rw[hog]at iN;cases iN;exact e' rfl
   obtain⟨Co,Cq⟩:=h.root r' F' hr'
   have N7:r'≠g:=by rintro rfl;rw[Cq]at hog;cases hog
   exact⟨g',hg',iN,by rw[far _ _ Co hi N7];exact k1,fun j hj=>by rw[far _ _ hg' hj hgg];exact k2 j hj⟩
 ·by_cases e':r'=r
  ·subst e'
   rw[aQ]at hr'
   cases hr'
   by_cases ei:i=p/32
   ·subst ei;rw[hh']at hhi;cases hhi
   ·rw[nX _ _ _ _ ei]at hhi
    rw[far _ _ hrm hi hrg]
    exact h.no r' F i hr hi hhi
  ·rw[au _ _ _ _ e']at hr'
   obtain⟨Co,Cq⟩:=h.root r' F' hr'
   have N7:r'≠g:=by rintro rfl;rw[Cq]at hog;cases hog
   rw[far _ _ Co hi N7]
   exact h.no r' F' i hr' hi hhi
 ·by_cases e':r'=r
  ·subst e'
   rw[aQ]at hr'
   cases hr'
   by_cases ep:p'=p
   ·subst ep;rw[aC];exact he
   ·rw[aA _ _ _ _ ep];exact h.fit r' F p' hr
  ·rw[au _ _ _ _ e']at hr';exact h.fit r' F' p' hr'
theorem bS.fresh{n lo hi:Nat}{L:List Int}{R:Nat→Nat}{S:Nat→Bool}{W:Nat→Option Sp}{O:Own}(h:bS n lo hi L R S W O){r:Nat}{F:Sp}(hr:W r=some F){p x:Nat}(hp:p<1024)(hx:(lo≤x∧x<hi))(h0:R x=0)(hh:hasB F (p/32)=false){e:fQ}(he:mU n e):
  bS n lo hi (kK (kK (putRow L x zeros) r (p/32) (true,false,false,(x:Int))) x (p%32) e) (upd R x 1) S (j6 W r (some (aI F p e))) (j6 O x (some (r,some (p/32)))):=by
 have hn:=h.nm
 have ho:=h.free h0
 obtain⟨ok,hlo⟩:=IJ h.pos (Or.inr he)
 obtain⟨hrm,hor⟩:=h.root r F hr
 have hrx:r≠x:=by rintro rfl;rw[hor]at ho;cases ho
 have l1:(putRow L x zeros).length=n*32:=gQ h.len (by omega) (by decide)
 have l2:(kK (putRow L x zeros) r (p/32) (true,false,false,(x:Int))).length=n*32:=by rw[iL];exact l1
 have okt:nM true false false (x:Int)=true:=by have:=h.top;simp[nM];omega
 have far:∀f q:Nat,(lo≤f∧f<hi)→q<32→f≠x→(f≠r∨q≠p/32)→dV n (kK (kK (putRow L x zeros) r (p/32) (true,false,false,(x:Int))) x (p%32) e) (f:Int) (q:Int)=dV n L (f:Int) (q:Int):=fun f q hf hq hne hne2=>by
  rw[bQ l2 (by omega) (by omega) (by omega) hq (Or.inl hne),bQ l1 (by omega) (by omega) (by omega) hq hne2,jC h.len (by omega) (by omega) hq hne]
 have hzero:∀j,j<32→F (32*(p/32)+j)=z0:=fun j hj=>by
  rcases h.fit r F (32*(p/32)+j) hr with hz|hf
  ·exact hz
  ·have:=(jv F (p/32)).2 ⟨j,hj,hf.1⟩
   rw[hh]at this;cases this
 refine⟨by rw[iL];exact l2,hn,h.top,fun r'=>?_,fun r' F' hr'=>?_,fun r' F' i hr' hi hhi=>?_,fun r' F' i hr' hi hhi=>?_,fun r' F' p' hr'=>?_,fun f=>?_,fun f hf=>?_⟩
 ·rw[h.sp r']
  by_cases e':r'=r
  ·subst e';rw[aQ,hr];rfl
  ·rw[au _ _ _ _ e']
 ·by_cases e':r'=r
  ·subst e';exact⟨hrm,by rw[au _ _ _ _ hrx];exact hor⟩
  ·rw[au _ _ _ _ e']at hr'
   obtain⟨k1,k2⟩:=h.root r' F' hr'
   exact⟨k1,by rw[au _ _ _ _ (by rintro rfl;rw[ho]at k2;cases k2)];exact k2⟩
 ·by_cases e':r'=r
  ·subst e'
   rw[aQ]at hr'
   cases hr'
   by_cases ei:i=p/32
   ·subst ei
    refine⟨x,hx,aQ _ _ _,?_,fun j hj=>?_⟩
    ·rw[bQ l2 (by omega) (by omega) (by omega) hi (Or.inl hrx)]
     exact iM l1 (by omega) hi okt (by simp;omega)
    ·by_cases ej:j=p%32
     ·rw[ej,iM l2 (by omega) (by omega) ok hlo,show 32*(p/32)+p%32=p by omega,aC]
     ·rw[bQ l2 (by omega) (by omega) (by omega) hj (Or.inr ej),bQ l1 (by omega) (by omega) (by omega) hj (Or.inl (Ne.symm hrx)),sZ h.len (by omega) hj,aA _ _ _ _ (by omega),hzero j hj]
   ·rw[nX _ _ _ _ ei]at hhi
    obtain⟨g',hg',iN,k1,k2⟩:=h.yes r' F i hr hi hhi
    have hgx:g'≠x:=by rintro rfl;rw[ho]at iN;cases iN
    have hgr:g'≠r':=by rintro rfl;rw[hor]at iN;cases iN
    exact⟨g',hg',by rw[au _ _ _ _ hgx];exact iN,by rw[far _ _ hrm hi hrx (Or.inr ei)];exact k1,fun j hj=>by rw[far _ _ hg' hj hgx (Or.inl hgr),aA _ _ _ _ (by omega)];exact k2 j hj⟩
  ·rw[au _ _ _ _ e']at hr'
   obtain⟨g',hg',iN,k1,k2⟩:=h.yes r' F' i hr' hi hhi
   obtain⟨Co,Cq⟩:=h.root r' F' hr'
   have hgx:g'≠x:=by rintro rfl;rw[ho]at iN;cases iN
   have hgr:g'≠r:=by rintro rfl;rw[hor]at iN;cases iN
   have adq:r'≠x:=by rintro rfl;rw[Cq]at ho;cases ho
   exact⟨g',hg',by rw[au _ _ _ _ hgx];exact iN,by rw[far _ _ Co hi adq (Or.inl e')];exact k1,fun j hj=>by rw[far _ _ hg' hj hgx (Or.inl hgr)];exact k2 j hj⟩
 ·by_cases e':r'=r
  ·subst e'
   rw[aQ]at hr'
   cases hr'
   by_cases ei:i=p/32
   ·subst ei;rw[wS _ _ _ he.1]at hhi;cases hhi
   ·rw[nX _ _ _ _ ei]at hhi
    rw[far _ _ hrm hi hrx (Or.inr ei)]
    exact h.no r' F i hr hi hhi
  ·rw[au _ _ _ _ e']at hr'
   obtain⟨Co,Cq⟩:=h.root r' F' hr'
   have adq:r'≠x:=by rintro rfl;rw[Cq]at ho;cases ho
   rw[far _ _ Co hi adq (Or.inl e')]
   exact h.no r' F' i hr' hi hhi
 ·by_cases e':r'=r
  ·subst e'
   rw[aQ]at hr'
   cases hr'
   by_cases ep:p'=p
   ·subst ep;rw[aC];exact Or.inr he
   ·rw[aA _ _ _ _ ep];exact h.fit r' F p' hr
  ·rw[au _ _ _ _ e']at hr';exact h.fit r' F' p' hr'
 ·intro hf
  by_cases e:f=x
  ·subst e;exact upd_same _ _ _
  ·rw[au _ _ _ _ e]at hf;rw[aB _ _ _ _ e];exact h.held f hf
 ·by_cases e:f=x
  ·subst e;exact hx
  ·rw[au _ _ _ _ e]at hf;exact h.low f hf
theorem bS.drop{n lo hi:Nat}{L:List Int}{R:Nat→Nat}{S:Nat→Bool}{W:Nat→Option Sp}{O:Own}(h:bS n lo hi L R S W O){r:Nat}{F:Sp}(hr:W r=some F){p g:Nat}(hp:p<1024)(hg:(lo≤g∧g<hi))(hog:O g=some (r,some (p/32)))(hh':hasB (aI F p z0) (p/32)=false):
  bS n lo hi (kK (kK L g (p%32) z0) r (p/32) z0) (upd R g 0) S (j6 W r (some (aI F p z0))) (j6 O g none):=by
 have hn:=h.nm
 obtain⟨ok,hlo⟩:=IJ h.pos (Or.inl rfl:z0=z0∨mU n z0)
 obtain⟨hrm,hor⟩:=h.root r F hr
 have hrg:r≠g:=by rintro rfl;rw[hor]at hog;cases hog
 have l1:(kK L g (p%32) z0).length=n*32:=by rw[iL];exact h.len
 have far:∀f q:Nat,(lo≤f∧f<hi)→q<32→f≠g→(f≠r∨q≠p/32)→dV n (kK (kK L g (p%32) z0) r (p/32) z0) (f:Int) (q:Int)=dV n L (f:Int) (q:Int):=fun f q hf hq hne hne2=>by
  rw[bQ l1 (by omega) (by omega) (by omega) hq hne2,bQ h.len (by omega) (by omega) (by omega) hq (Or.inl hne)]
 refine⟨by rw[iL];exact l1,hn,h.top,fun r'=>?_,fun r' F' hr'=>?_,fun r' F' i hr' hi hhi=>?_,fun r' F' i hr' hi hhi=>?_,fun r' F' p' hr'=>?_,fun f=>?_,fun f hf=>?_⟩
 ·rw[h.sp r']
  by_cases e':r'=r
  ·subst e';rw[aQ,hr];rfl
  ·rw[au _ _ _ _ e']
 ·by_cases e':r'=r
  ·subst e';exact⟨hrm,by rw[au _ _ _ _ hrg];exact hor⟩
  ·rw[au _ _ _ _ e']at hr'
   obtain⟨k1,k2⟩:=h.root r' F' hr'
   exact⟨k1,by rw[au _ _ _ _ (by rintro rfl;rw[hog]at k2;cases k2)];exact k2⟩
 ·by_cases e':r'=r
  ·subst e'
   rw[aQ]at hr'
   cases hr'
   by_cases ei:i=p/32
   ·subst ei;rw[hh']at hhi;cases hhi
   ·rw[nX _ _ _ _ ei]at hhi
    obtain⟨g',hg',iN,k1,k2⟩:=h.yes r' F i hr hi hhi
    have hgg:g'≠g:=by rintro rfl;rw[hog]at iN;cases iN;exact ei rfl
    have hgr:g'≠r':=by rintro rfl;rw[hor]at iN;cases iN
    exact⟨g',hg',by rw[au _ _ _ _ hgg];exact iN,by rw[far _ _ hrm hi hrg (Or.inr ei)];exact k1,fun j hj=>by rw[far _ _ hg' hj hgg (Or.inl hgr),aA _ _ _ _ (by omega)];exact k2 j hj⟩
  ·rw[au _ _ _ _ e']at hr'
   obtain⟨g',hg',iN,k1,k2⟩:=h.yes r' F' i hr' hi hhi
   obtain⟨Co,Cq⟩:=h.root r' F' hr'
   have hgg:g'≠g:=by rintro rfl;rw[hog]at iN;cases iN;exact e' rfl
   have hgr:g'≠r:=by rintro rfl;rw[hor]at iN;cases iN
   have N7:r'≠g:=by rintro rfl;rw[Cq]at hog;cases hog
   exact⟨g',hg',by rw[au _ _ _ _ hgg];exact iN,by rw[far _ _ Co hi N7 (Or.inl e')];exact k1,fun j hj=>by rw[far _ _ hg' hj hgg (Or.inl hgr)];exact k2 j hj⟩
 ·by_cases e':r'=r
  ·subst e'
   rw[aQ]at hr'
   cases hr'
   by_cases ei:i=p/32
   ·subst ei
    exact iM l1 (by omega) hi ok hlo
   ·rw[nX _ _ _ _ ei]at hhi
    rw[far _ _ hrm hi hrg (Or.inr ei)]
    exact h.no r' F i hr hi hhi
  ·rw[au _ _ _ _ e']at hr'
   obtain⟨Co,Cq⟩:=h.root r' F' hr'
   have N7:r'≠g:=by rintro rfl;rw[Cq]at hog;cases hog
   rw[far _ _ Co hi N7 (Or.inl e')]
   exact h.no r' F' i hr' hi hhi
 ·by_cases e':r'=r
  ·subst e'
   rw[aQ]at hr'
   cases hr'
   by_cases ep:p'=p
   ·subst ep;rw[aC];exact Or.inl rfl
   ·rw[aA _ _ _ _ ep];exact h.fit r' F p' hr
  ·rw[au _ _ _ _ e']at hr';exact h.fit r' F' p' hr'
 ·intro hf
  by_cases e:f=g
  ·subst e;rw[aQ]at hf;cases hf
  ·rw[au _ _ _ _ e]at hf;rw[aB _ _ _ _ e];exact h.held f hf
 ·by_cases e:f=g
  ·subst e;exact hg
  ·rw[au _ _ _ _ e]at hf;exact h.low f hf
theorem bS.close{n lo hi:Nat}{L:List Int}{R:Nat→Nat}{S:Nat→Bool}{W:Nat→Option Sp}{O:Own}(h:bS n lo hi L R S W O){r:Nat}{F:Sp}(hr:W r=some F):
  bS n lo hi L (upd R r 0) (pY S r false) (j6 W r none) (j6 O r none):=by
 obtain⟨hrm,hor⟩:=h.root r F hr
 refine⟨h.len,h.nm,h.top,fun r'=>?_,fun r' F' hr'=>?_,fun r' F' i hr' hi hhi=>?_,fun r' F' i hr' hi hhi=>?_,fun r' F' p' hr'=>?_,fun f=>?_,fun f hf=>?_⟩
 ·unfold pY j6
  split
  ·rfl
  ·exact h.sp r'
 ·by_cases e':r'=r
  ·subst e';rw[aQ]at hr';cases hr'
  ·rw[au _ _ _ _ e']at hr' ⊢;exact h.root r' F' hr'
 ·by_cases e':r'=r
  ·subst e';rw[aQ]at hr';cases hr'
  ·rw[au _ _ _ _ e']at hr'
   obtain⟨g',hg',iN,k1,k2⟩:=h.yes r' F' i hr' hi hhi
   have hgr:g'≠r:=by rintro rfl;rw[hor]at iN;cases iN
   exact⟨g',hg',by rw[au _ _ _ _ hgr];exact iN,k1,k2⟩
 ·by_cases e':r'=r
  ·subst e';rw[aQ]at hr';cases hr'
  ·rw[au _ _ _ _ e']at hr';exact h.no r' F' i hr' hi hhi
 ·by_cases e':r'=r
  ·subst e';rw[aQ]at hr';cases hr'
  ·rw[au _ _ _ _ e']at hr';exact h.fit r' F' p' hr'
 ·intro hf
  by_cases e:f=r
  ·subst e;rw[aQ]at hf;cases hf
  ·rw[au _ _ _ _ e]at hf;rw[aB _ _ _ _ e];exact h.held f hf
 ·by_cases e:f=r
  ·subst e;exact hrm
  ·rw[au _ _ _ _ e]at hf;exact h.low f hf
theorem bS.Xc{n lo hi:Nat}{L:List Int}{R:Nat→Nat}{S:Nat→Bool}{W:Nat→Option Sp}{O:Own}(h:bS n lo hi L R S W O){r:Nat}{F:Sp}(hr:W r=some F):mR n L (r:Int)=true↔∀i,i<32→hasB F i=false:=by
 rw[FQ]
 constructor
 ·intro hb i hi
  cases hh:hasB F i with
  |false=>rfl
  |true=>
   obtain⟨g,_,_,h1,_⟩:=h.yes r F i hr hi hh
   have:=hb i hi
   rw[fD h1]at this;cases this
 ·intro hb i hi
  rw[fD (h.no r F i hr hi (hb i hi))];rfl
theorem Xd{n lo hi:Nat}{L:List Int}{R:Nat→Nat}{S:Nat→Bool}{W:Nat→Option Sp}{O:Own}(h:bS n lo hi L R S W O){r:Nat}{F:Sp}(hr:W r=some F){p g:Nat}(hp:p<1024)(hg:(lo≤g∧g<hi))(hent:dV n L (r:Int) ((p/32:Nat):Int)=some (true,false,false,(g:Int)))(hh:hasB F (p/32)=true):mR n (kK L g (p%32) z0) (g:Int)= !hasB (aI F p z0) (p/32):=by
 have hn:=h.nm
 obtain⟨ok,hlo⟩:=IJ h.pos (Or.inl rfl:z0=z0∨mU n z0)
 obtain⟨g2,hg2,aff,h1,h2⟩:=h.yes r F (p/32) hr (by omega) hh
 obtain rfl:g2=g:=by rw[hent]at h1;simp at h1;omega
 have hj:∀j:Nat,j<32→lD n (kK L g2 (p%32) z0) (g2:Int) (j:Int)=aI F p z0 (32*(p/32)+j):=fun j hj=>by
  by_cases ej:j=p%32
  ·rw[ej,fD (iM h.len (by omega) (by omega) ok hlo),show 32*(p/32)+p%32=p by omega,aC]
  ·rw[aA _ _ _ _ (by omega)]
   exact fD (by rw[bQ h.len (by omega) (by omega) (by omega) hj (Or.inr ej)];exact h2 j hj)
 rw[Bool.eq_iff_iff,FQ]
 constructor
 ·intro hb
  cases hx:hasB (aI F p z0) (p/32)with
  |false=>rfl
  |true=>
   obtain⟨j,hj1,hj2⟩:=(jv _ _).1 hx
   rw[←hj j hj1,hb j hj1]at hj2;cases hj2
 ·intro hb j hj1
  rw[hj j hj1]
  cases hx:(aI F p z0 (32*(p/32)+j)).1 with
  |false=>rfl
  |true=>
   have:=(jv (aI F p z0) (p/32)).2 ⟨j,hj1,hx⟩
   rw[this]at hb;cases hb
def dD(lo hi:Nat)(R:Nat→Nat):Nat:=(bL (lo,hi-lo) R).length
abbrev cu(lo hi:Nat)(T:List (Nat×Nat)):List (Nat×Nat):=(lo,hi-lo)::T
theorem Xe(T:List (Nat×Nat))(lo hi:Nat)(R:Nat→Nat):zH (cu lo hi T) R 0=dD lo hi R:=by
 unfold zH
 rw[if_pos (by simp[gI])];rfl
theorem bS.oL{n lo hi:Nat}{L:List Int}{R:Nat→Nat}{S:Nat→Bool}{W:Nat→Option Sp}{O:Own}(h:bS n lo hi L R S W O)(r:Int):isSp S r=(lH W r).isSome:=by
 unfold isSp lH
 by_cases h0:0≤r
 ·simp[h0,h.sp]
 ·simp[h0]
theorem FW{lo hi:Nat}{R:Nat→Nat}(T:List (Nat×Nat))(h:dD lo hi R=0)(L:List Int):dG (cu lo hi T) R 0=(0,3)∧fO (cu lo hi T) R 0 L=L∧gy (cu lo hi T) R 0=R:=by
 have hp:gI (cu lo hi T) 0=true:=by simp[gI]
 have he:bL ((cu lo hi T).getD (0:Int).toNat (0,0)) R=[]:=List.eq_nil_of_length_eq_zero h
 unfold dG fO gy
 simp only[hp,if_true,he]
 exact⟨trivial,trivial,trivial⟩
theorem vQ{lo hi:Nat}{R:Nat→Nat}(T:List (Nat×Nat))(h:dD lo hi R≠0)(L:List Int):∃x:Nat,(lo≤x∧x<hi)∧R x=0∧dG (cu lo hi T) R 0=((x:Int),0)∧fO (cu lo hi T) R 0 L=putRow L x zeros∧gy (cu lo hi T) R 0=upd R x 1∧dD lo hi (upd R x 1)+1=dD lo hi R:=by
 have hp:gI (cu lo hi T) 0=true:=by simp[gI]
 unfold dD at h
 cases he:bL (lo,hi-lo) R with
 |nil=>rw[he]at h;exact absurd rfl h
 |cons x r=>
  have he':bL ((cu lo hi T).getD (0:Int).toNat (0,0)) R=x::r:=he
  have hm:=(fC (lo,hi-lo) R x).1 (by rw[he];simp)
  refine⟨x,by have:=hm.1;simp only at this;omega,hm.2,?_,?_,?_,?_⟩
  ·unfold dG;simp only[hp,if_true,he']
  ·unfold fO;simp only[hp,if_true,he']
  ·unfold gy;simp only[hp,if_true,he']
  ·unfold dD;rw[BN (lo,hi-lo) R x 1 r he (by decide),he];simp
theorem Xf{lo hi g:Nat}{R:Nat→Nat}(T:List (Nat×Nat))(hg:lo≤g∧g<hi)(h1:R g≠0):eH (cu lo hi T) R (g:Int)=0:=by
 have ho:iI (cu lo hi T) (g:Int)=(((0:Nat):Int),0):=Iq _ _ 0 (by simp) (by simp[vY];omega) (fun j hj=>absurd hj (Nat.not_lt_zero _))
 unfold eH;rw[ho,nP];simp;omega
theorem Xg{lo hi g:Nat}{R:Nat→Nat}(T:List (Nat×Nat))(hg:lo≤g∧g<hi)(h1:R g≠0):l9 (cu lo hi T) R (g:Int)=upd R g (R g-1):=by
 unfold l9;rw[if_pos (Xf T hg h1),Int.toNat_natCast]
theorem Cr{lo hi g:Nat}{R:Nat→Nat}(hg:lo≤g∧g<hi)(h1:R g≠0):dD lo hi (upd R g 0)=dD lo hi R+1:=by
 obtain⟨a,b⟩:=BO (lo,hi-lo) R g (by simp only;omega) h1
 unfold dD
 rw[b,Ny]
theorem Qd{lo hi g:Nat}{R:Nat→Nat}(T:List (Nat×Nat))(hg:lo≤g∧g<hi)(h1:R g=1):l9 (cu lo hi T) R (g:Int)=upd R g 0∧dD lo hi (upd R g 0)=dD lo hi R+1:=by
 refine⟨by rw[Xg T hg (by omega),h1],Cr hg (by omega)⟩
theorem bS.one{n lo hi:Nat}{L:List Int}{R:Nat→Nat}{S:Nat→Bool}{W:Nat→Option Sp}{O:Own}(h:bS n lo hi L R S W O){g:Nat}{o:Nat×Option Nat}(ho:O g=some o):R g=1∧(lo≤g∧g<hi):=by
 refine⟨h.held g (by rw[ho];rfl),h.low g (by rw[ho];rfl)⟩
theorem bS.zO{n lo hi:Nat}(T:List (Nat×Nat)){L:List Int}{R:Nat→Nat}{S:Nat→Bool}{W:Nat→Option Sp}{O:Own}(h:bS n lo hi L R S W O):
  (dD lo hi R=0∧oJ (cu lo hi T) L R S=((0,3),L,R,S))∨
  (∃(x:Nat) (L':List Int) (R':Nat→Nat) (O':Own),(lo≤x∧x<hi)∧W x=none∧oJ (cu lo hi T) L R S=(((x:Int),0),L',R',pY S x true)∧bS n lo hi L' R' (pY S x true) (j6 W x (some fun _=>z0)) O'∧dD lo hi R'+1=dD lo hi R∧dz n hi L R O L' R' O'):=by
 by_cases h0:dD lo hi R=0
 ·obtain⟨a,b,c⟩:=FW T h0 L
  refine Or.inl ⟨h0,?_⟩
  unfold oJ
  rw[a,b,c,if_neg (by decide)]
 ·obtain⟨x,hx,hr,a,b,c,d⟩:=vQ T h0 L
  obtain⟨i1,i2⟩:=h.open_ hx hr
  refine Or.inr ⟨x,_,_,_,hx,i2,?_,i1,d,dz.take h.len (by have:=h.nm;omega) hr (h.free hr) _⟩
  unfold oJ
  rw[a,b,c,if_pos rfl];rfl
theorem Qe{n lo hi:Nat}{L:List Int}{R:Nat→Nat}{S:Nat→Bool}{W:Nat→Option Sp}{O:Own}(h:bS n lo hi L R S W O)(r pg:Int)(e:fQ)(k:Int):
  aN [0,kL pg,o7 n e.1 e.2.1 e.2.2.1 e.2.2.2,bY S r,k]=if cK W r pg (tq n e)=0 then k else cK W r pg (tq n e):=by
 by_cases h1:0≤pg∧pg<1024
 ·cases h2:tq n e with
  | true=>
   cases hs:(lH W r).isSome with
   |true=>
    rw[Cj ⟨h1,rfl⟩ hs,if_pos rfl]
    simp only[aN,wU h1,Qb h2,if_true,bY,h.oL,hs]
    exact Xa k
   |false=>
    rw[FU ⟨h1,rfl⟩ hs,if_neg (by decide)]
    simp[aN,wU h1,Qb h2,bY,h.oL,hs]
  |false=>
   rw[qM (by simp),if_neg (by decide)]
   simp[aN,wU h1,W9 h2]
 ·rw[qM (fun hh=>h1 hh.1),if_neg (by decide)]
  simp[aN,KR h1]
theorem afg{n lo hi:Nat}{L:List Int}{R:Nat→Nat}{S:Nat→Bool}{W:Nat→Option Sp}{O:Own}(h:bS n lo hi L R S W O)(r pg:Int)(k:Int):
  aN [0,kL pg,bY S r,k]=if cK W r pg true=0 then k else cK W r pg true:=by
 by_cases h1:0≤pg∧pg<1024
 ·cases hs:(lH W r).isSome with
  |true=>
   rw[Cj ⟨h1,rfl⟩ hs,if_pos rfl]
   simp only[aN,wU h1,if_true,bY,h.oL,hs]
   exact Xa k
  |false=>
   rw[FU ⟨h1,rfl⟩ hs,if_neg (by decide)]
   simp[aN,wU h1,bY,h.oL,hs]
 ·rw[qM (fun hh=>h1 hh.1),if_neg (by decide)]
  simp[aN,KR h1]
theorem bS.aho{n lo hi:Nat}(T:List (Nat×Nat)){L:List Int}{R:Nat→Nat}{S:Nat→Bool}{W:Nat→Option Sp}{O:Own}(h:bS n lo hi L R S W O)(r pg:Int)(e:fQ):
  ∃(L':List Int) (R':Nat→Nat) (O':Own),mapA n (cu lo hi T) L R S r pg e.1 e.2.1 e.2.2.1 e.2.2.2=(lI n W (dD lo hi R) r pg e,L',R')∧
   (lI n W (dD lo hi R) r pg e=0→bS n lo hi L' R' S (vN W r pg e) O'∧dD lo hi R'+needs W r pg=dD lo hi R)∧
   (lI n W (dD lo hi R) r pg e≠0→bS n lo hi L' R' S W O'∧R'=R)∧dz n hi L R O L' R' O':=by
 by_cases h0:cK W r pg (tq n e)=0
 ·obtain⟨k,p,F,rfl,rfl,hp,hw,hfit,hF⟩:=oK h0
  have he:=(wT n e).1 hfit
  have hmp:mpE n L S (k:Int) (p:Int) e.1 e.2.1 e.2.2.1 e.2.2.2=Cc n L (k:Int) (p:Int):=by
   unfold mpE
   rw[Qe h,if_pos h0]
  have hme:lI n W (dD lo hi R) (k:Int) (p:Int) e=if(F p).1=true then 5 else if hasB F (p/32)=false∧dD lo hi R=0 then 3 else 0:=by
   unfold lI
   rw[if_pos h0,hF];simp
  have hpw:vN W (k:Int) (p:Int) e=j6 W k (some (aI F p e)):=by unfold vN;rw[hF];simp
  have hnd:needs W (k:Int) (p:Int)=if hasB F (p/32)=true then 0 else 1:=by unfold needs;rw[hF];simp
  rw[hme,hpw,hnd]
  have hu:Cc n L (k:Int) (p:Int)=if(F p).1=true then 5 else 0:=by unfold Cc;rw[h.Qc hw p hp]
  by_cases hfp:(F p).1=true
  ·rw[if_pos hfp]
   refine⟨L,R,O,?_,fun hh=>absurd hh (by decide),fun _=>⟨h,rfl⟩,dz.refl _ _ _ _⟩
   unfold mapA
   rw[hmp,hu,if_pos hfp,if_neg (by decide)]
  ·rw [if_neg hfp]
   have hz:F p=z0:=by
    rcases h.fit k F p hw with hz|hf
    ·exact hz
    ·exact absurd hf.1 hfp
   rcases h.find hw p hp with⟨hh,g,hg,hog,hent,hfd⟩|⟨hh,_,hfd⟩
   ·rw[if_neg (by rw[hh];simp)]
    refine⟨kK L g (p%32) e,R,O,?_,fun _=>⟨h.page hw hp hg hog hent hh (Or.inr he) (wS F p e he.1),by rw[if_pos hh];rfl⟩,fun hne=>absurd rfl hne,dz.put h.len (by have:=h.nm;omega) (by rw[hog];rfl)⟩
    unfold mapA
    rw[hmp,hu,if_neg hfp,if_pos rfl,hfd,if_pos rfl,Ck,tu]
   ·by_cases hl:dD lo hi R=0
    ·rw[if_pos ⟨hh,hl⟩]
     obtain⟨a,b,c⟩:=FW T hl L
     refine⟨L,R,O,?_,fun hx=>absurd hx (by decide),fun _=>⟨h,rfl⟩,dz.refl _ _ _ _⟩
     unfold mapA
     rw[hmp,hu,if_neg hfp,if_pos rfl,hfd,if_neg (by decide),a,if_neg (by decide)]
    ·rw[if_neg (fun hx=>hl hx.2)]
     obtain⟨x,hx,hr0,a,b,c,d⟩:=vQ T hl L
     refine⟨_,_,_,?_,fun _=>⟨h.fresh hw hp hx hr0 hh he,by rw[if_neg (by rw[hh];decide)];exact d⟩,fun hne=>absurd rfl hne,?_⟩
     ·unfold mapA
      rw[hmp,hu,if_neg hfp,if_pos rfl,hfd,if_neg (by decide),a,if_pos rfl,b,c,Ck,Xb]
      simp only[tu]
     ·have hn:=h.nm
      have ho:=h.free hr0
      obtain⟨hrm,hor⟩:=h.root k F hw
      have hkx:k≠x:=by rintro rfl;rw[hor]at ho;cases ho
      have k1:=dz.take h.len (show x<n∧x<hi by omega) hr0 ho (k,some (p/32))
      have l1:(putRow L x zeros).length=n*32:=gQ h.len (by omega) (by decide)
      refine(k1.trans (dz.put (g:=k) l1 (by omega) ?_)).trans (dz.put (by rw[iL];exact l1) (by omega) ?_)
      ·rw[au _ _ _ _ hkx,hor];rfl
      ·rw[aQ];rfl
 ·have hme:lI n W (dD lo hi R) r pg e=cK W r pg (tq n e):=by unfold lI;rw[if_neg h0]
  rw[hme]
  refine⟨L,R,O,?_,fun hh=>absurd hh h0,fun _=>⟨h,rfl⟩,dz.refl _ _ _ _⟩
  have hmp:mpE n L S r pg e.1 e.2.1 e.2.2.1 e.2.2.2=cK W r pg (tq n e):=by unfold mpE;rw[Qe h,if_neg h0]
  unfold mapA
  rw[hmp,if_neg h0]
theorem bS.Xh{n lo hi:Nat}{L:List Int}{R:Nat→Nat}{S:Nat→Bool}{W:Nat→Option Sp}{O:Own}(h:bS n lo hi L R S W O)(r pg:Int)(e:fQ):
  El n L S r pg e.1 e.2.1 e.2.2.1 e.2.2.2=jf n W r pg e∧
  (jf n W r pg e=0→bS n lo hi (vJ n L S r pg e.1 e.2.1 e.2.2.1 e.2.2.2) R S (vN W r pg e) O)∧
  (jf n W r pg e≠0→vJ n L S r pg e.1 e.2.1 e.2.2.1 e.2.2.2=L)∧dz n hi L R O (vJ n L S r pg e.1 e.2.1 e.2.2.1 e.2.2.2) R O:=by
 suffices hs:El n L S r pg e.1 e.2.1 e.2.2.1 e.2.2.2=jf n W r pg e∧(jf n W r pg e=0→bS n lo hi (vJ n L S r pg e.1 e.2.1 e.2.2.1 e.2.2.2) R S (vN W r pg e) O∧dz n hi L R O (vJ n L S r pg e.1 e.2.1 e.2.2.1 e.2.2.2) R O)∧(jf n W r pg e≠0→vJ n L S r pg e.1 e.2.1 e.2.2.1 e.2.2.2=L) by
  refine⟨hs.1,fun h0=>(hs.2.1 h0).1,hs.2.2,?_⟩
  by_cases h0:jf n W r pg e=0
  ·exact(hs.2.1 h0).2
  ·rw[hs.2.2 h0];exact dz.refl _ _ _ _
 by_cases h0:cK W r pg (tq n e)=0
 ·obtain⟨k,p,F,rfl,rfl,hp,hw,hfit,hF⟩:=oK h0
  have he:=(wT n e).1 hfit
  have hse:El n L S (k:Int) (p:Int) e.1 e.2.1 e.2.2.1 e.2.2.2=o8 n L (k:Int) (p:Int):=by unfold El;rw[Qe h,if_pos h0]
  have hme:jf n W (k:Int) (p:Int) e=if(F p).1=true then 0 else 4:=by unfold jf;rw[if_pos h0,hF];simp
  have hu:o8 n L (k:Int) (p:Int)=if(F p).1=true then 0 else 4:=by unfold o8;rw[h.Qc hw p hp]
  have hpw:vN W (k:Int) (p:Int) e=j6 W k (some (aI F p e)):=by unfold vN;rw[hF];simp
  refine⟨by rw[hse,hu,hme],fun hh=>?_,fun hne=>?_⟩
  ·rw[hme]at hh
   have hfp:(F p).1=true:=by
    by_cases hx:(F p).1=true
    ·exact hx
    ·rw[if_neg hx]at hh;cases hh
   rcases h.find hw p hp with⟨hh,g,hg,hog,hent,hfd⟩|⟨_,hz,_⟩
   ·unfold vJ
    rw[hse,hu,if_pos hfp,if_pos rfl,hfd,hpw,Ck,tu]
    exact⟨h.page hw hp hg hog hent hh (Or.inr he) (wS F p e he.1),dz.put h.len (by have:=h.nm;omega) (by rw[hog];rfl)⟩
   ·rw[hz]at hfp;cases hfp
  ·unfold vJ
   rw[hse,hu,←hme,if_neg hne]
 ·have hme:jf n W r pg e=cK W r pg (tq n e):=by unfold jf;rw[if_neg h0]
  have hse:El n L S r pg e.1 e.2.1 e.2.2.1 e.2.2.2=cK W r pg (tq n e):=by unfold El;rw[Qe h,if_neg h0]
  refine⟨by rw[hse,hme],fun hh=>absurd (hme▸hh) h0,fun _=>?_⟩
  unfold vJ
  rw[hse,if_neg h0]
theorem qN{n lo hi:Nat}{L:List Int}{R:Nat→Nat}{S:Nat→Bool}{W:Nat→Option Sp}{O:Own}(h:bS n lo hi L R S W O)(r pg:Int):qL n L S r pg=eu W r pg:=by
 unfold qL eu
 rw[afg h]
 by_cases h0:cK W r pg true=0
 ·obtain⟨k,p,F,rfl,rfl,hp,hw,_,hF⟩:=oK h0
  rw[if_pos h0,if_pos h0,hF]
  unfold o8
  rw[h.Qc hw p hp];simp
 ·rw[if_neg h0,if_neg h0]
theorem bS.ahp{n lo hi:Nat}(T:List (Nat×Nat)){L:List Int}{R:Nat→Nat}{S:Nat→Bool}{W:Nat→Option Sp}{O:Own}(h:bS n lo hi L R S W O)(r pg:Int):
  ∃(L':List Int) (R':Nat→Nat) (O':Own),yj n (cu lo hi T) L R S r pg=(if eu W r pg=0 then KS W r pg else z0,eu W r pg,L',R')∧
   (eu W r pg=0→bS n lo hi L' R' S (vN W r pg z0) O'∧dD lo hi R'=dD lo hi R+frees W r pg)∧
   (eu W r pg≠0→bS n lo hi L' R' S W O'∧R'=R)∧dz n hi L R O L' R' O':=by
 by_cases h0:eu W r pg=0
 ·obtain⟨k,p,F,rfl,rfl,hp,hw,hF,hfp⟩:=zN h0
  have hpw:vN W (k:Int) (p:Int) z0=j6 W k (some (aI F p z0)):=by unfold vN;rw[hF];simp
  have hfr:frees W (k:Int) (p:Int)=if hasB (aI F p z0) (p/32)=true then 0 else 1:=by unfold frees;rw[hF];simp
  have hen:KS W (k:Int) (p:Int)=F p:=by unfold KS;rw[hF];simp
  rw[hpw,hfr,hen,h0]
  rcases h.find hw p hp with⟨hh,g,hg,hog,hent,hfd⟩|⟨_,hz,_⟩
  ·have hbt:=Xd h hw hp hg hent hh
   have hone:=h.one hog
   obtain⟨hfree,hleft⟩:=Qd T hg hone.1
   cases hb:hasB (aI F p z0) (p/32)with
   |true=>
    refine⟨kK L g (p%32) z0,R,O,?_,fun _=>⟨h.page hw hp hg hog hent hh (Or.inl rfl) hb,rfl⟩,fun hne=>absurd rfl hne,dz.put h.len (by have:=h.nm;omega) (by rw[hog];rfl)⟩
    unfold yj
    rw[qN h,h0,if_pos rfl,if_pos rfl,hfd,Ck,tu]
    simp only
    rw[hbt,hb];rfl
   | false=>
    refine⟨_,_,_,?_,fun _=>⟨h.drop hw hp hg hog hb,hleft⟩,fun hne=>absurd rfl hne,?_⟩
    ·unfold yj
     rw[qN h,h0,if_pos rfl,if_pos rfl,hfd,Ck,Xb]
     simp only[tu]
     rw[hbt,hb,hfree];rfl
    ·have hn:=h.nm
     obtain⟨hrm,hor⟩:=h.root k F hw
     exact((dz.put h.len (by have:=h.nm;omega) (by rw[hog];rfl)).trans (dz.put (g:=k) (by rw[iL];exact h.len) (by omega) (by rw[hor];rfl))).trans (dz.drop (by rw[hog];rfl))
  ·rw[hz]at hfp;cases hfp
 ·refine⟨L,R,O,?_,fun hh=>absurd hh h0,fun _=>⟨h,rfl⟩,dz.refl _ _ _ _⟩
  unfold yj
  rw[qN h,if_neg h0,if_neg h0]
theorem bS.ahq{n lo hi:Nat}{L:List Int}{R:Nat→Nat}{S:Nat→Bool}{W:Nat→Option Sp}{O:Own}(h:bS n lo hi L R S W O)(r pg:Int):IB n L S r pg=if eu W r pg=0 then(KS W r pg,true)else(z0,false):=by
 unfold IB
 rw[qN h]
 by_cases h0:eu W r pg=0
 ·obtain⟨k,p,F,rfl,rfl,hp,hw,hF,hfp⟩:=zN h0
  rw[if_pos h0,if_pos h0,h.Qc hw p hp]
  unfold KS;rw[hF];simp
 ·rw[if_neg h0,if_neg h0]
theorem bS.ahr{n lo hi:Nat}(T:List (Nat×Nat)){L:List Int}{R:Nat→Nat}{S:Nat→Bool}{W:Nat→Option Sp}{O:Own}(h:bS n lo hi L R S W O)(r:Int):
  ∃(R':Nat→Nat) (S':Nat→Bool) (O':Own),nT n (cu lo hi T) L R S r=(kM W r,R',S')∧
   (kM W r=0→bS n lo hi L R' S' (j6 W r.toNat none) O'∧dD lo hi R'=dD lo hi R+1)∧
   (kM W r≠0→R'=R∧S'=S)∧dz n hi L R O L R' O':=by
 have hce:yt n L S r=kM W r:=by
  unfold yt kM
  cases hs:lH W r with
  |none=>simp[aN,bY,h.oL,hs]
  |some F=>
   obtain⟨k,rfl,hw⟩:=qc hs
   simp only[aN,if_true,bY,h.oL,hs,Option.isSome_some]
   have hb:mR n L (k:Int)=yA F:=by rw[Bool.eq_iff_iff,h.Xc hw,Cm]
   have:pq n L (k:Int)=if yA F=true then 0 else 9:=by unfold pq;rw[hb]
   rw[this]
   by_cases he:yA F=true
   ·simp[he]
   ·simp[he]
 by_cases h0:kM W r=0
 ·cases hs:lH W r with
  |none=>unfold kM at h0;rw[hs]at h0;cases h0
  |some F=>
   obtain⟨k,rfl,hw⟩:=qc hs
   obtain⟨hrm,hor⟩:=h.root k F hw
   have hone:=h.one hor
   obtain⟨hfree,hleft⟩:=Qd T hrm hone.1
   refine⟨_,_,_,?_,fun _=>⟨by rw[Int.toNat_natCast];exact h.close hw,hleft⟩,fun hne=>absurd h0 hne,dz.drop (by rw[hor];rfl)⟩
   unfold nT
   rw[hce,if_pos h0,h0,hfree];rfl
 ·refine⟨R,S,O,?_,fun hh=>absurd hh h0,fun _=>⟨rfl,rfl⟩,dz.refl _ _ _ _⟩
  unfold nT
  rw[hce,if_neg h0]
theorem bS.yB{n lo hi:Nat}{L:List Int}{R:Nat→Nat}{S:Nat→Bool}{W:Nat→Option Sp}{O:Own}(h:bS n lo hi L R S W O){r:Nat}{F:Sp}(hr:W r=some F):
  ∀k,k≤32→(cB n L (r:Int) k).length=((List.range k).filter (hasB F)).length∧je n L (cB n L (r:Int) k)=vO F 0 (32*k)
 |0,_=>⟨rfl,rfl⟩
 | k +1,hk=>by
  obtain⟨h1,h2⟩:=h.yB hr k (by omega)
  rw[List.range_succ,List.filter_append,List.length_append,show 32*(k+1)=32*k+32 by omega,KT,Nat.zero_add,←h2,←h1]
  cases hh:hasB F k with
  | true=>
   obtain⟨g,hg,hog,e1,e2⟩:=h.yes r F k hr (by omega) hh
   have ht:∀j,j≤32→p9 (k:Int) (cB n L (g:Int) j)=vO F (32*k) j:=by
    intro j
    induction j with
    |zero=>intro _;rfl
    | succ j ih=>
     intro hj
     have e3:=fD (e2 j (by omega))
     rw[vO,←ih (by omega)]
     cases hp:(F (32*k+j)).1 with
     |true=>
      rw[lG e3 hp,Ch,if_pos rfl]
      simp only[List.append_cancel_left_eq,List.cons.injEq,Prod.mk.injEq,and_true]
      omega
     |false=>
      rw[uF (by rw[e3];exact hp)];simp
   rw[lG (fD e1) rfl,zM,List.length_append]
   refine⟨by simp[hh],?_⟩
   rw[←ht 32 (by omega)];rfl
  | false=>
   have e1:=h.no r F k hr (by omega) hh
   rw[uF (by rw[fD e1];rfl),FV F (32*k) 32 (fun j hj=>by
    cases hx:(F (32*k+j)).1 with
    |false=>rfl
    |true=>have:=(jv F k).2 ⟨j,hj,hx⟩;rw[hh]at this;cases this)]
   simp[hh]
theorem bS.ahs{n lo hi:Nat}{L:List Int}{R:Nat→Nat}{S:Nat→Bool}{W:Nat→Option Sp}{O:Own}(h:bS n lo hi L R S W O)(r:Int):KN n L S r=Kz W r:=by
 unfold KN Kz
 rw[WU]
 unfold bY
 rw[h.oL]
 cases hs:lH W r with
 |none=>simp
 |some F=>
  obtain⟨k,rfl,hw⟩:=qc hs
  simp only[Option.isSome_some,if_true]
  unfold vP gZ
  rw[(h.yB hw 32 (by omega)).1]
theorem bS.aht{n lo hi:Nat}{L:List Int}{R:Nat→Nat}{S:Nat→Bool}{W:Nat→Option Sp}{O:Own}(h:bS n lo hi L R S W O)(r:Int):allA n L S r=aak W r:=by
 unfold allA aak
 rw[WU]
 unfold bY
 rw[h.oL]
 cases hs:lH W r with
 |none=>simp
 |some F=>
  obtain⟨k,rfl,hw⟩:=qc hs
  simp only[Option.isSome_some,if_true]
  unfold ad9 gZ NZ
  rw[(h.yB hw 32 (by omega)).2]
end Go.Proofs.YtammlljefhakmaaGreatDoor
namespace Go.Proofs.YtammlljefhakmaaGreatDoor
open Go.RowKit Go.Maps
set_option maxRecDepth 100000
theorem bS.other{n lo hi:Nat}{L L':List Int}{R R':Nat→Nat}{S:Nat→Bool}{W:Nat→Option Sp}{O:Own}(h:bS n lo hi L R S W O)(hl:L'.length=n*32)(hR:∀f,(O f).isSome=true→R' f=R f)(hL:∀f q,(O f).isSome=true→q<32→L'.getD (f*32+q) 0=L.getD (f*32+q) 0):bS n lo hi L' R' S W O:=by
 have hE:∀f q:Nat,(O f).isSome=true→q<32→dV n L' (f:Int) (q:Int)=dV n L (f:Int) (q:Int):=fun f q hf hq=>by
  have:=(h.low f hf).2
  have:=h.nm
  rw[jW (by omega) hq,jW (by omega) hq,hL f q hf hq]
 refine⟨hl,h.nm,h.top,h.sp,h.root,fun r F i hr hi hh=>?_,fun r F i hr hi hh=>?_,h.fit,fun f hf=>(hR f hf).trans (h.held f hf),h.low⟩
 ·obtain⟨g,hg,hog,h1,h2⟩:=h.yes r F i hr hi hh
  have hor:=(h.root r F hr).2
  exact⟨g,hg,hog,by rw[hE r i (by rw[hor];rfl) hi];exact h1,fun j hj=>by rw[hE g j (by rw[hog];rfl) hj];exact h2 j hj⟩
 ·have hor:=(h.root r F hr).2
  rw[hE r i (by rw[hor];rfl) hi]
  exact h.no r F i hr hi hh
structure bM(W0 w:World)(tb sb:Nat)(X:bD)(n lo hi c:Nat)(W:Nat→Option Sp)(Q:Nat→Nat)(V:Nat→Nat→Int):Prop where
 ex:∃L R S O T,Mg W0 w tb sb X L R S∧bS n lo hi L R S W O∧dD lo hi R=c∧X.P=cu lo hi T∧(∀f,Q f=QF R O f)∧(∀f q,f<n→q<32→Q f≠0→V f q=L.getD (f*32+q) 0)∧(∀f,Q f≠0→lo≤f∧f<hi)∧∀f q,f<n→q<32→hi≤f→L.getD (f*32+q) 0=X.kw f q
 hn:X.n=n
structure mV(W0 w w':World)(tb sb:Nat)(X:bD)(n lo hi c:Nat)(W:Nat→Option Sp)(Q:Nat→Nat)(V:Nat→Nat→Int):Prop where
 st:bM W0 w' tb sb X n lo hi c W Q V
 only:Only w w' (mgB X sb)
section
variable {W0 w:World} {tb sb n lo hi c:Nat} {X:bD} {W:Nat→Option Sp} {Q:Nat→Nat} {V:Nat→Nat→Int}
theorem bM.kept{w':World}(h:bM W0 w tb sb X n lo hi c W Q V){B:Nat→Prop}(ho:Only w w' B)(hB:∀k,X.all k∨k=sb∨k=tb→¬B k)(hb:Below W0.heap.size W0 w'):bM W0 w' tb sb X n lo hi c W Q V:=by
 obtain⟨L,R,S,O,T,h1,r⟩:=h.ex
 refine⟨⟨L,R,S,O,T,⟨⟨h1.own.st.kept ho (fun k hk=>hB k (Or.inl hk)),hb,h1.own.new,h1.own.laid⟩,h1.lw,h1.wd,ho.kept h1.box (hB _ (Or.inr (Or.inr rfl))),h1.iK.same (ho.block _ h1.iK.lt (hB _ (Or.inr (Or.inl rfl)))),h1.nt,h1.ns,h1.ne,h1.low⟩,r⟩,h.hn⟩
theorem bM.step{w':World}(h:bM W0 w tb sb X n lo hi c W Q V)(hb:Below w.heap.size w w'):bM W0 w' tb sb X n lo hi c W Q V:=by
 obtain⟨L,R,S,O,T,h1,r⟩:=h.ex
 exact⟨⟨L,R,S,O,T,h1.step hb,r⟩,h.hn⟩
theorem bM.below(h:bM W0 w tb sb X n lo hi c W Q V):Below W0.heap.size W0 w:=by
 obtain⟨L,R,S,O,T,h1,r⟩:=h.ex
 exact h1.own.below
theorem bM.Qg(h:bM W0 w tb sb X n lo hi c W Q V):aM w:=by
 obtain⟨L,R,S,O,T,h1,r⟩:=h.ex
 exact h1.Kz
theorem bM.other{cs:Array Value}{t:TypeId}{z:Nat×Nat}{b:Nat}(h:bM W0 w tb sb X n lo hi c W Q V)(hb:w.heap[b]? =some (.cells cs t z))(ht:t≠278∧t≠231∧t≠115∧t≠110∧t≠148):¬mgB X sb b:=fun hk=>by
 obtain⟨L,R,S,O,T,h1,r⟩:=h.ex
 rcases hk with hk|rfl
 ·exact h1.own.st.other hb ht (Or.inl hk)
 ·obtain⟨es,ck,hm⟩:=h1.iK.isMap
  rw[hm]at hb;cases hb
theorem bM.kind(h:bM W0 w tb sb X n lo hi c W Q V)(k:Nat)(hk:X.all k∨k=sb∨k=tb):W0.heap.size≤k∧∃o,w.heap[k]? =some o∧((kindOf o=none∧(k=X.mb∨k=sb))∨kindOf o=some 278∨kindOf o=some 231∨kindOf o=some 115∨kindOf o=some 110∨kindOf o=some 148∨kindOf o=some 261):=by
 obtain⟨L,R,S,O,T,h1,r⟩:=h.ex
 rcases hk with hk|rfl|rfl
 ·refine⟨h1.own.new k hk,?_⟩
  obtain⟨o,ho,hx⟩:=h1.own.st.kind k hk
  refine⟨o,ho,?_⟩
  rcases hx with e|e|e|e|e|e
  ·rcases hk with(e1|e1|e1)|e1|e1|e1
   ·rw[e1,h1.own.st.mem.row]at ho;cases ho;cases e
   ·exact Or.inl ⟨e,Or.inl e1⟩
   ·obtain⟨t,ht,e2⟩:=List.mem_map.1 e1
    obtain⟨i,hi,e3⟩:=List.getElem_of_mem ht
    have:=(h1.own.st.sets i hi).box
    rw[List.getD_eq_getElem?_getD,List.getElem?_eq_getElem hi,Option.getD_some,e3,e2,ho]at this
    cases this;cases e
   ·rw[e1,h1.own.st.box]at ho;cases ho;cases e
   ·rw[e1,h1.own.st.mem.box]at ho;cases ho;cases e
   ·obtain⟨cs,hcs⟩:=bF h1.own.st.parts e1
    rw[hcs]at ho;cases ho;cases e
  ·exact Or.inr (Or.inl e)
  ·exact Or.inr (Or.inr (Or.inl e))
  ·exact Or.inr (Or.inr (Or.inr (Or.inl e)))
  ·exact Or.inr (Or.inr (Or.inr (Or.inr (Or.inl e))))
  ·exact Or.inr (Or.inr (Or.inr (Or.inr (Or.inr (Or.inl e)))))
 ·obtain⟨es,ck,hm⟩:=h1.iK.isMap
  exact⟨h1.ns,_,hm,Or.inl ⟨rfl,Or.inr rfl⟩⟩
 ·exact⟨h1.nt,_,h1.box,Or.inr (Or.inr (Or.inr (Or.inr (Or.inr (Or.inr rfl)))))⟩
theorem bM.facts(h:bM W0 w tb sb X n lo hi c W Q V):lo<hi∧hi≤n∧n≤1024∧(∀f,Q f≤64)∧(∀f,Q f≠0→lo≤f∧f<hi)∧(∀f q,q<32→Q f≠0→0≤V f q∧V f q<4294967296)∧(∀r F p,W r=some F→F p=z0∨mU n (F p))∧(∀r,(W r).isSome=true→lo≤r∧r<hi∧Q r=0):=by
 obtain⟨L,R,S,O,T,h1,h2,h3,h4,h5,h6,h7,_⟩:=h.ex
 refine⟨h2.nm.1,h2.nm.2,h2.top,fun f=>?_,h7,fun f q hq h0=>?_,h2.fit,fun r hr=>?_⟩
 ·rw[h5];unfold QF
  split
  ·omega
  ·exact h1.own.st.fit.most f
 ·rw[h6 f q (by have:=h7 f h0;have:=h2.nm;omega) hq h0];exact h1.wd _
 ·obtain⟨F,hF⟩:=Option.isSome_iff_exists.1 hr
  obtain⟨k1,k2⟩:=h2.root r F hF
  refine⟨k1.1,k1.2,?_⟩
  rw[h5];unfold QF;rw[k2];rfl
theorem bM.tabs{L L':List Int}{R R':Nat→Nat}{S':Nat→Bool}{O O':Own}{T:List (Nat×Nat)}{w':World}{W':Nat→Option Sp}{c':Nat}(hn:X.n=n)(hP:X.P=cu lo hi T)(hQ:∀f,Q f=QF R O f)(hV:∀f q,f<n→q<32→Q f≠0→V f q=L.getD (f*32+q) 0)(hr:∀f,Q f≠0→lo≤f∧f<hi)(hkw:∀f q,f<n→q<32→hi≤f→L.getD (f*32+q) 0=X.kw f q)(ht:gB W0 w w' tb sb X L' R' S')(hi':bS n lo hi L' R' S' W' O')(hl:dD lo hi R'=c')(hd:dz n hi L R O L' R' O'):mV W0 w w' tb sb X n lo hi c' W' Q V:=
 ⟨⟨⟨L',R',S',O',T,ht.st,hi',hl,hP,fun f=>(hQ f).trans (hd.ref f).symm,fun f q hf hq h0=>by rw[hV f q hf hq h0,hd.word f q hf hq (Or.inl (by rw[←hQ];exact h0))],hr,fun f q hf hq h0=>(hd.word f q hf hq (Or.inr h0)).trans (hkw f q hf hq h0)⟩,hn⟩,ht.only⟩
def SL(W0 w:World)(tb sb:Nat)(X:bD)(n lo hi c:Nat)(W:Nat→Option Sp)(Q:Nat→Nat)(V:Nat→Nat→Int)(e:Ending)(w':World):Prop:=
 (c=0∧e= .returned (.tuple #[.int .i64 0, .int .i64 3])∧mV W0 w w' tb sb X n lo hi c W Q V)∨
 (∃x:Nat,(lo≤x∧x<hi)∧W x=none∧1≤c∧e= .returned (.tuple #[.int .i64 (x:Int), .int .i64 0])∧mV W0 w w' tb sb X n lo hi (c-1) (j6 W x (some fun _=>z0)) Q V)
theorem bM.open_(h:bM W0 w tb sb X n lo hi c W Q V):Calls Tryz.prog 155 #[.pointer (some ⟨tb,0,none⟩)] w (SL W0 w tb sb X n lo hi c W Q V):=by
 obtain⟨L,R,S,O,T,k1,k2,k3,k4,k5,k6,k7,k8⟩:=h.ex
 rcases k2.zO T with⟨h0,ho⟩|⟨x,L',R',O',hx,hw,ho,hi',hl,hd⟩
 ·exact(k1.open_ k4 ho).mono fun e w' ⟨he,ht⟩=>Or.inl ⟨by omega,he,bM.tabs h.hn k4 k5 k6 k7 k8 ht k2 k3 (dz.refl _ _ _ _)⟩
 ·exact(k1.open_ k4 ho).mono fun e w' ⟨he,ht⟩=>Or.inr ⟨x,hx,hw,by omega,he,bM.tabs h.hn k4 k5 k6 k7 k8 ht hi' (by omega) hd⟩
theorem bM.map(h:bM W0 w tb sb X n lo hi c W Q V)(r pg:Int)(p x k:Bool)(g:Int)(hr:I64 r)(hp:I64 pg):
  Calls Tryz.prog 160 #[.pointer (some ⟨tb,0,none⟩), .int .i64 r, .int .i64 pg,ent p x k g] w fun e w'=>e= .returned (.int .i64 (lI n W c r pg (p,x,k,g)))∧mV W0 w w' tb sb X n lo hi (adj n c W r pg (p,x,k,g)) (adk n c W r pg (p,x,k,g)) Q V:=by
 obtain⟨L,R,S,O,T,k1,k2,rfl,k4,k5,k6,k7,k8⟩:=h.ex
 obtain⟨L',R',O',ho,y1,y2,y3⟩:=k2.aho T r pg (p,x,k,g)
 refine(k1.ahm h.hn k4 hr hp ho).mono fun e w' ⟨he,ht⟩=>⟨he,?_⟩
 unfold adj adk
 by_cases h0:lI n W (dD lo hi R) r pg (p,x,k,g)=0
 ·obtain⟨i1,i2⟩:=y1 h0
  rw[if_pos h0,if_pos h0]
  exact bM.tabs h.hn k4 k5 k6 k7 k8 ht i1 (by omega) y3
 ·obtain⟨i1,rfl⟩:=y2 h0
  rw[if_neg h0,if_neg h0]
  exact bM.tabs h.hn k4 k5 k6 k7 k8 ht i1 rfl y3
theorem bM.set(h:bM W0 w tb sb X n lo hi c W Q V)(r pg:Int)(p x k:Bool)(g:Int)(hr:I64 r)(hp:I64 pg):
  Calls Tryz.prog 161 #[.pointer (some ⟨tb,0,none⟩), .int .i64 r, .int .i64 pg,ent p x k g] w fun e w'=>e= .returned (.int .i64 (jf n W r pg (p,x,k,g)))∧mV W0 w w' tb sb X n lo hi c (setW n W r pg (p,x,k,g)) Q V:=by
 obtain⟨L,R,S,O,T,k1,k2,k3,k4,k5,k6,k7,k8⟩:=h.ex
 obtain⟨ho,y1,y2,y3⟩:=k2.Xh r pg (p,x,k,g)
 refine(k1.ahn h.hn hr hp ho rfl).mono fun e w' ⟨he,ht⟩=>⟨he,?_⟩
 unfold setW
 by_cases h0:jf n W r pg (p,x,k,g)=0
 ·rw[if_pos h0]
  exact bM.tabs h.hn k4 k5 k6 k7 k8 ht (y1 h0) k3 y3
 ·rw[if_neg h0]
  rw[y2 h0]at ht y3
  exact bM.tabs h.hn k4 k5 k6 k7 k8 ht k2 k3 y3
theorem bM.unmap(h:bM W0 w tb sb X n lo hi c W Q V)(r pg:Int)(hr:I64 r)(hp:I64 pg){p x k:Bool}{g:Int}(he:Cn W r pg=(p,x,k,g)):
  Calls Tryz.prog 142 #[.pointer (some ⟨tb,0,none⟩), .int .i64 r, .int .i64 pg] w fun e w'=>e= .returned (.tuple #[ent p x k g, .int .i64 (eu W r pg)])∧mV W0 w w' tb sb X n lo hi (adl c W r pg) (adn W r pg) Q V:=by
 obtain⟨L,R,S,O,T,k1,k2,rfl,k4,k5,k6,k7,k8⟩:=h.ex
 obtain⟨L',R',O',ho,y1,y2,y3⟩:=k2.ahp T r pg
 unfold Cn at he
 rw[he]at ho
 refine(k1.adb h.hn k4 hr hp ho).mono fun e w' ⟨he,ht⟩=>⟨he,?_⟩
 unfold adl adn
 by_cases h0:eu W r pg=0
 ·obtain⟨i1,i2⟩:=y1 h0
  rw[if_pos h0,if_pos h0]
  exact bM.tabs h.hn k4 k5 k6 k7 k8 ht i1 i2 y3
 ·obtain⟨i1,rfl⟩:=y2 h0
  rw[if_neg h0,if_neg h0]
  exact bM.tabs h.hn k4 k5 k6 k7 k8 ht i1 rfl y3
theorem bM.query(h:bM W0 w tb sb X n lo hi c W Q V)(r pg:Int)(hr:I64 r)(hp:I64 pg){p x k:Bool}{g:Int}(he:Cn W r pg=(p,x,k,g)):
  Calls Tryz.prog 136 #[.pointer (some ⟨tb,0,none⟩), .int .i64 r, .int .i64 pg] w fun e w'=>e= .returned (.tuple #[ent p x k g, .bool (decide (eu W r pg=0))])∧Below w.heap.size w w':=by
 obtain⟨L,R,S,O,T,k1,k2,_⟩:=h.ex
 refine k1.ade h.hn hr hp ?_
 rw[k2.ahq,←he]
 unfold Cn
 by_cases h0:eu W r pg=0
 ·simp[h0]
 ·simp[h0]
theorem bM.close(h:bM W0 w tb sb X n lo hi c W Q V)(r:Int)(hr:I64 r):
  Calls Tryz.prog 109 #[.pointer (some ⟨tb,0,none⟩), .int .i64 r] w fun e w'=>e= .returned (.int .i64 (kM W r))∧mV W0 w w' tb sb X n lo hi (ado c W r) (adp W r) Q V:=by
 obtain⟨L,R,S,O,T,k1,k2,rfl,k4,k5,k6,k7,k8⟩:=h.ex
 obtain⟨R',S',O',ho,y1,y2,y3⟩:=k2.ahr T r
 refine(k1.close_ h.hn k4 hr ho).mono fun e w' ⟨he,ht⟩=>⟨he,?_⟩
 unfold ado adp
 by_cases h0:kM W r=0
 ·obtain⟨i1,i2⟩:=y1 h0
  rw[if_pos h0,if_pos h0]
  exact bM.tabs h.hn k4 k5 k6 k7 k8 ht i1 i2 y3
 ·obtain⟨rfl,rfl⟩:=y2 h0
  rw[if_neg h0,if_neg h0]
  exact bM.tabs h.hn k4 k5 k6 k7 k8 ht k2 rfl (dz.refl _ _ _ _)
theorem bM.tables(h:bM W0 w tb sb X n lo hi c W Q V)(r:Int)(hr:I64 r):
  Calls Tryz.prog 156 #[.pointer (some ⟨tb,0,none⟩), .int .i64 r] w fun e w'=>e= .returned (.int .i64 (Kz W r:Int))∧Below w.heap.size w w':=by
 obtain⟨L,R,S,O,T,k1,k2,_⟩:=h.ex
 refine k1.aag h.hn hr ?_
 rw[k2.ahs]
theorem bM.all(h:bM W0 w tb sb X n lo hi c W Q V)(r:Int)(hr:I64 r):
  Calls Tryz.prog 157 #[.pointer (some ⟨tb,0,none⟩), .int .i64 r] w (wR w (aak W r)):=by
 obtain⟨L,R,S,O,T,k1,k2,_⟩:=h.ex
 have:=aae k1 r hr
 rw[h.hn,k2.aht]at this
 exact this
theorem bM.left(h:bM W0 w tb sb X n lo hi c W Q V):Calls Tryz.prog 35 #[.pointer (some ⟨X.pb,0,none⟩), .int .i64 0] w fun e w'=>e= .returned (.int .i64 (c:Int))∧Below w.heap.size w w':=by
 obtain⟨L,R,S,O,T,k1,k2,rfl,k4,_⟩:=h.ex
 refine Z0 (X:=X) ?_ k1.own.st
 rw[k4];exact Xe T lo hi R
theorem KU{R:Nat→Nat}{O:Own}{f:Nat}(h:QF R O f≠0):O f=none∧QF R O f=R f:=by
 unfold QF at h ⊢
 cases ho:O f with
 |none=>exact⟨rfl,rfl⟩
 |some v=>rw[ho]at h;exact absurd rfl h
theorem N9{R:Nat→Nat}{O:Own}{f v:Nat}(h:O f=none)(g:Nat):QF (upd R f v) O g=upd (QF R O) f v g:=by
 unfold QF
 by_cases e:g=f
 ·subst e;rw[h,upd_same,upd_same];rfl
 ·rw[aB _ _ _ _ e,aB _ _ _ _ e]
theorem bM.refs(h:bM W0 w tb sb X n lo hi c W Q V)(f:Nat)(h0:Q f≠0):Calls Tryz.prog 189 #[.pointer (some ⟨X.pb,0,none⟩), .int .i64 (f:Int)] w fun e w'=>e= .returned (.int .i64 (Q f:Int))∧w=w':=by
 obtain⟨L,R,S,O,T,k1,k2,rfl,k4,k5,k6,k7,k8⟩:=h.ex
 have:=k7 f h0
 have:=k2.nm
 have:=k2.top
 refine ZY ?_ k1.own.st (by unfold I64;omega)
 rw[nP,k5 f]
 rw[k5]at h0
 rw[(KU h0).2]
def jK(V:Nat→Nat→Int)(x:Nat):Nat→Nat→Int:=fun f q=>if f=x then 0 else V f q
def Oa(W0 w:World)(tb sb:Nat)(X:bD)(n lo hi c:Nat)(W:Nat→Option Sp)(Q:Nat→Nat)(V:Nat→Nat→Int)(e:Ending)(w':World):Prop:=
 ∃x:Nat,(lo≤x∧x<hi)∧Q x=0∧W x=none∧e= .returned (.tuple #[.int .i64 (x:Int), .int .i64 0])∧mV W0 w w' tb sb X n lo hi (c-1) W (upd Q x 1) (jK V x)
theorem bM.alloc(h:bM W0 w tb sb X n lo hi c W Q V)(hc:c≠0):Calls Tryz.prog 185 #[.pointer (some ⟨X.pb,0,none⟩), .int .i64 0] w (Oa W0 w tb sb X n lo hi c W Q V):=by
 obtain⟨L,R,S,O,T,k1,k2,rfl,k4,k5,k6,k7,k8⟩:=h.ex
 obtain⟨x,hx,hr0,a,b,cc,d⟩:=vQ T hc L
 have hn:=k2.nm
 have hO:=k2.free hr0
 rw[←k4]at a b cc
 have hw:=sU k1.own.st.fit k1.own.st.mem.len k1.wd
 rw[b]at hw
 refine(Ca a b cc k1.own.st k1.own.table).mono fun e w' ⟨he,hm⟩=>?_
 have ht:=k1.move hm hw
 have hxn:∀f,(O f).isSome=true→f≠x:=fun f hf e=>by rw[e,hO]at hf;cases hf
 refine⟨x,hx,by rw[k5];unfold QF;rw[hO,hr0];rfl,?_,he,⟨⟨_,_,S,O,T,ht.st,k2.other (gQ k2.len (by omega) (by decide)) (fun f hf=>aB _ _ _ _ (hxn f hf)) (fun f q hf hq=>?_),by omega,k4,fun f=>?_,fun f q hf hq h0=>?_,fun f h0=>?_,fun f q hf hq h0=>by rw[nW _ _ _ (by rw[k2.len];omega),if_neg (by omega),k8 f q hf hq h0]⟩,h.hn⟩,ht.only⟩
 ·cases hw':W x with
  |none=>rfl
  |some F=>have:=(k2.root x F hw').2;rw[hO]at this;cases this
 ·have:=hxn f hf
  rw[nW _ _ _ (by rw[k2.len];omega),if_neg (by omega)]
 ·rw[N9 hO]
  unfold upd
  split
  ·rfl
  ·exact k5 f
 ·unfold jK
  by_cases e:f=x
  ·subst e
   rw[if_pos rfl,nW _ _ _ (by rw[k2.len];omega),if_pos ⟨by omega,by omega⟩]
  ·rw[aB _ _ _ _ e]at h0
   rw[if_neg e,nW _ _ _ (by rw[k2.len];omega),if_neg (by omega),k6 f q hf hq h0]
 ·by_cases e:f=x
  ·subst e;exact hx
  ·rw[aB _ _ _ _ e]at h0;exact k7 f h0
theorem bM.share(h:bM W0 w tb sb X n lo hi c W Q V)(f:Nat)(h0:Q f≠0)(h1:Q f<64):Calls Tryz.prog 162 #[.pointer (some ⟨X.pb,0,none⟩), .int .i64 (f:Int)] w fun e w'=>e= .returned (.int .i64 0)∧mV W0 w w' tb sb X n lo hi c W (upd Q f (Q f+1)) V:=by
 obtain⟨L,R,S,O,T,k1,k2,rfl,k4,k5,k6,k7,k8⟩:=h.ex
 have hf:=k7 f h0
 have hn:=k2.nm
 have ht:=k2.top
 have h0':=h0
 rw[k5]at h0'
 obtain⟨hO,hQ⟩:=KU h0'
 have hR:R f≠0:=by rw[←hQ];exact h0'
 have hQR:Q f=R f:=(k5 f).trans hQ
 have hE:jI X.P R (f:Int)=0:=by
  unfold jI;rw[k4,Xf T hf hR,if_pos rfl,nP,if_neg (by omega)]
 have hS:nQ X.P R (f:Int)=upd R f (R f+1):=by unfold nQ;rw[if_pos hE,Int.toNat_natCast]
 refine(Wy hE hS k1.own.st (by unfold I64;omega)).mono fun e w' ⟨he,hm⟩=>⟨he,?_⟩
 have ht:=k1.move hm k1.wd
 have hxn:∀g,(O g).isSome=true→g≠f:=fun g hg e=>by rw[e,hO]at hg;cases hg
 refine⟨⟨⟨L,_,S,O,T,ht.st,k2.other k2.len (fun g hg=>aB _ _ _ _ (hxn g hg)) (fun _ _ _ _=>rfl),?_,k4,fun g=>?_,fun g q hg hq h2=>?_,fun g h2=>?_,k8⟩,h.hn⟩,ht.only⟩
 ·unfold dD;rw[qH _ _ _ _ hR (by omega)]
 ·rw[N9 hO,hQR]
  unfold upd
  split
  ·rfl
  ·exact k5 g
 ·by_cases e:g=f
  ·subst e;exact k6 g q hg hq h0
  ·rw[aB _ _ _ _ e]at h2;exact k6 g q hg hq h2
 ·by_cases e:g=f
  ·subst e;exact hf
  ·rw[aB _ _ _ _ e]at h2;exact k7 g h2
theorem bM.free(h:bM W0 w tb sb X n lo hi c W Q V)(f:Nat)(h0:Q f≠0):Calls Tryz.prog 143 #[.pointer (some ⟨X.pb,0,none⟩), .int .i64 (f:Int)] w fun e w'=>e= .returned (.int .i64 0)∧mV W0 w w' tb sb X n lo hi (if Q f=1 then c+1 else c) W (upd Q f (Q f-1)) V:=by
 obtain⟨L,R,S,O,T,k1,k2,rfl,k4,k5,k6,k7,k8⟩:=h.ex
 have hf:=k7 f h0
 have hn:=k2.nm
 have ht:=k2.top
 have h0':=h0
 rw[k5]at h0'
 obtain⟨hO,hQ⟩:=KU h0'
 have hR:R f≠0:=by rw[←hQ];exact h0'
 have hQR:Q f=R f:=(k5 f).trans hQ
 have hE:eH X.P R (f:Int)=0:=by rw[k4,Xf T hf hR]
 have hS:l9 X.P R (f:Int)=upd R f (R f-1):=by rw[k4,Xg T hf hR]
 refine(Px hE hS k1.own.st (by unfold I64;omega)).mono fun e w' ⟨he,hm⟩=>⟨he,?_⟩
 have ht:=k1.move hm k1.wd
 have hxn:∀g,(O g).isSome=true→g≠f:=fun g hg e=>by rw[e,hO]at hg;cases hg
 refine⟨⟨⟨L,_,S,O,T,ht.st,k2.other k2.len (fun g hg=>aB _ _ _ _ (hxn g hg)) (fun _ _ _ _=>rfl),?_,k4,fun g=>?_,fun g q hg hq h2=>?_,fun g h2=>?_,k8⟩,h.hn⟩,ht.only⟩
 ·rw[hQR]
  by_cases e1:R f=1
  ·rw[if_pos e1,e1];exact Cr hf hR
  ·rw[if_neg e1];unfold dD;rw[qH _ _ _ _ hR (by omega)]
 ·rw[N9 hO,hQR]
  unfold upd
  split
  ·rfl
  ·exact k5 g
 ·by_cases e:g=f
  ·subst e;exact k6 g q hg hq h0
  ·rw[aB _ _ _ _ e]at h2;exact k6 g q hg hq h2
 ·by_cases e:g=f
  ·subst e;exact hf
  ·rw[aB _ _ _ _ e]at h2;exact k7 g h2
theorem bM.puts{L L':List Int}{R:Nat→Nat}{S:Nat→Bool}{O:Own}{T:List (Nat×Nat)}{w':World}{V':Nat→Nat→Int}(hn:X.n=n)(k1:Mg W0 w tb sb X L R S)(k2:bS n lo hi L R S W O)(hP:X.P=cu lo hi T)(hQ:∀f,Q f=QF R O f)(hr:∀f,Q f≠0→lo≤f∧f<hi)(hp:Puts w w' X.mp X.fb X.n L')(hl:L'.length=n*32)(hw:Words L')(hO:∀f q,(O f).isSome=true→q<32→L'.getD (f*32+q) 0=L.getD (f*32+q) 0)(hV:∀f q,f<n→q<32→Q f≠0→V' f q=L'.getD (f*32+q) 0)(hkw:∀f q,f<n→q<32→hi≤f→L'.getD (f*32+q) 0=X.kw f q):mV W0 w w' tb sb X n lo hi (dD lo hi R) W Q V':=by
 have hm:Moves w w' X L' R:=⟨(k1.own.st.toG.acX hp).NR k1.own.st.fit (fun _ _=>rfl),Only.grown hp.grown (Or.inl rfl)⟩
 have ht:=k1.move hm hw
 exact⟨⟨⟨L',R,S,O,T,ht.st,k2.other hl (fun _ _=>rfl) hO,rfl,hP,hQ,hV,hr,hkw⟩,hn⟩,ht.only⟩
def vR(V:Nat→Nat→Int)(f q:Nat)(v:Int):Nat→Nat→Int:=fun g j=>if g=f∧j=q then v else V g j
theorem bM.write(h:bM W0 w tb sb X n lo hi c W Q V)(f q:Nat)(v:Int)(h0:Q f≠0)(hq:q<32)(hv:0≤v∧v<4294967296):Calls Tryz.prog 87 #[.pointer (some ⟨X.mp,0,none⟩), .int .i64 (f:Int), .int .i64 (q:Int), .int .u32 v] w fun e w'=>e= .returned (.int .i64 0)∧mV W0 w w' tb sb X n lo hi c W Q (vR V f q v):=by
 obtain⟨L,R,S,O,T,k1,k2,rfl,k4,k5,k6,k7,k8⟩:=h.ex
 have hf:=k7 f h0
 have hn:=k2.nm
 have hO:O f=none:=(KU (by rw[←k5];exact h0)).1
 refine(AY X.mp X.fb X.n f q L v w k1.own.st.mem (by rw[h.hn];omega) hq).mono fun e w' ⟨he,hp⟩=>⟨he,?_⟩
 refine bM.puts h.hn k1 k2 k4 k5 k7 hp (by rw[List.length_set];exact k2.len) (Fz k1.wd _ _ (by rw[k2.len];omega) hv) (fun g j hg hj=>?_) (fun g j hg hj h2=>?_) (fun g j hg hj h2=>by rw[lF _ _ _ _ (by rw[k2.len];omega),if_neg (by omega),k8 g j hg hj h2])
 ·have:g≠f:=fun e=>by rw[e,hO]at hg;cases hg
  rw[lF _ _ _ _ (by rw[k2.len];omega),if_neg (by omega)]
 ·rw[lF _ _ _ _ (by rw[k2.len];omega)]
  unfold vR
  by_cases e:g=f∧j=q
  ·rw[if_pos e,if_pos (by omega)]
  ·rw[if_neg e,if_neg (by omega),k6 g j hg hj h2]
def copyV(V:Nat→Nat→Int)(x f:Nat):Nat→Nat→Int:=fun g j=>if g=x then V f j else V g j
theorem FY(L:List Int)(f j:Nat)(hj:j<32):(rowOf L f).getD j 0=L.getD (f*32+j) 0:=by
 simp only[rowOf,List.getD_eq_getElem?_getD,List.getElem?_take,if_pos hj,List.getElem?_drop]
theorem FZ(L K:List Int)(f i:Nat)(hK:K.length=32)(hf:f*32+32≤L.length):(putRow L f K).getD i 0=if f*32≤i∧i<f*32+32 then K.getD (i-f*32) 0 else L.getD i 0:=by
 have hl:(L.take (f*32)).length=f*32:=by rw[List.length_take];omega
 simp only[putRow,List.getD_eq_getElem?_getD]
 by_cases h1:i<f*32
 ·rw[List.append_assoc,List.getElem?_append_left (by rw[hl];exact h1),List.getElem?_take,if_pos h1,if_neg (by omega)]
 ·by_cases h2:i<f*32+32
  ·rw[List.append_assoc,List.getElem?_append_right (by rw[hl];omega),hl,List.getElem?_append_left (by rw[hK];omega),if_pos ⟨by omega,h2⟩]
  ·rw[List.append_assoc,List.getElem?_append_right (by rw[hl];omega),hl,List.getElem?_append_right (by rw[hK];omega),if_neg (by omega),List.getElem?_drop,hK,show f*32+32+(i-f*32-32)=i by omega]
theorem bM.copy(h:bM W0 w tb sb X n lo hi c W Q V)(x f:Nat)(h0:Q f≠0)(h1:Q x≠0):Calls Tryz.prog 238 #[.pointer (some ⟨X.mp,0,none⟩), .int .i64 (x:Int), .int .i64 (f:Int)] w fun e w'=>e= .returned (.int .i64 0)∧mV W0 w w' tb sb X n lo hi c W Q (copyV V x f):=by
 obtain⟨L,R,S,O,T,k1,k2,rfl,k4,k5,k6,k7,k8⟩:=h.ex
 have hf:=k7 f h0
 have hx:=k7 x h1
 have hn:=k2.nm
 have hO:O x=none:=(KU (by rw[←k5];exact h1)).1
 have hK:(rowOf L f).length=32:=d9 k2.len (by omega)
 have hG:∀g j,g<n→j<32→(putRow L x (rowOf L f)).getD (g*32+j) 0=if g=x then L.getD (f*32+j) 0 else L.getD (g*32+j) 0:=fun g j hg hj=>by
  rw[FZ _ _ _ _ hK (by rw[k2.len];omega)]
  by_cases e:g=x
  ·subst e;rw[if_pos ⟨by omega,by omega⟩,if_pos rfl,show g*32+j-g*32=j by omega,FY _ _ _ hj]
  ·rw[if_neg (by omega),if_neg e]
 have hG2:∀i,(putRow L x (rowOf L f)).getD i 0=if x*32≤i∧i<x*32+32 then L.getD (f*32+(i-x*32)) 0 else L.getD i 0:=fun i=>by
  rw[FZ _ _ _ _ hK (by rw[k2.len];omega)]
  split
  ·rw[FY _ _ _ (by omega)]
  ·rfl
 refine(Za X.mp X.fb X.n f x L w k1.own.st.mem (by rw[h.hn];omega) (by rw[h.hn];omega)).mono fun e w' ⟨he,hp⟩=>⟨he,?_⟩
 refine bM.puts h.hn k1 k2 k4 k5 k7 hp (gQ k2.len (by omega) hK) (fun i=>?_) (fun g j hg hj=>?_) (fun g j hg hj h2=>?_) (fun g j hg hj h2=>by rw[hG g j hg hj,if_neg (by omega),k8 g j hg hj h2])
 ·rw[hG2]
  split
  ·exact k1.wd _
  ·exact k1.wd _
 ·have h3:g≠x:=fun e=>by rw[e,hO]at hg;cases hg
  have:=(k2.low g hg).2
  rw[hG g j (by omega) hj,if_neg h3]
 ·rw[hG g j hg hj]
  unfold copyV
  by_cases e:g=x
  ·rw[if_pos e,if_pos e,k6 f j (by omega) hj h0]
  ·rw[if_neg e,if_neg e,k6 g j hg hj h2]
end
end Go.Proofs.YtammlljefhakmaaGreatDoor
