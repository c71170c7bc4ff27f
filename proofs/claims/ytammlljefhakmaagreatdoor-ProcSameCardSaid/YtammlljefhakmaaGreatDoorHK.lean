/- Helps of the proof. No condition. -/
import Derived.Test.YtammlljefhakmaaGreatDoorGP
namespace Go.Proofs.YtammlljefhakmaaGreatDoor
open Go.RowKit
set_option maxRecDepth 100000
structure bQ(n lo hi:Nat)(L:List Int)(R:Nat→Nat)(S:Nat→Bool)(W:Nat→Option Sp)(O:Own):Prop where
 len:L.length=n*32
 nm:lo<hi∧hi≤n
 top:n≤1024
 sp:∀r:Nat,S r=(W r).isSome
 root:∀(r:Nat) (F:Sp),W r=some F→(lo≤r∧r<hi)∧O r=some (r,none)
 yes:∀(r:Nat) (F:Sp) (i:Nat),W r=some F→i<32→hasB F i=true→∃g:Nat,(lo≤g∧g<hi)∧O g=some (r,some i)∧dO n L (r:Int) (i:Int)=some (true,false,false,(g:Int))∧∀j:Nat,j<32→dO n L (g:Int) (j:Int)=some (F (32*i+j))
 no:∀(r:Nat) (F:Sp) (i:Nat),W r=some F→i<32→hasB F i=false→dO n L (r:Int) (i:Int)=some z0
 fit:∀(r:Nat) (F:Sp) (p:Nat),W r=some F→F p=z0∨mG n (F p)
 held:∀f:Nat,(O f).isSome=true→R f=1
 low:∀f:Nat,(O f).isSome→(lo≤f∧f<hi)
def QF(R:Nat→Nat)(O:Own)(f:Nat):Nat:=if(O f).isSome=true then 0 else R f
structure dh(n hi:Nat)(L:List Int)(R:Nat→Nat)(O:Own)(L':List Int)(R':Nat→Nat)(O':Own):Prop where
 ref:∀f,QF R' O' f=QF R O f
 word:∀f q,f<n→q<32→QF R O f≠0∨hi≤f→L'.getD (f*32+q) 0=L.getD (f*32+q) 0
theorem dh.refl{hi:Nat}(n:Nat)(L:List Int)(R:Nat→Nat)(O:Own):dh n hi L R O L R O:=⟨fun _=>rfl,fun _ _ _ _ _=>rfl⟩
theorem dh.trans{n hi:Nat}{L L' L2:List Int}{R R' R2:Nat→Nat}{O O' O2:Own}(h:dh n hi L R O L' R' O')(k:dh n hi L' R' O' L2 R2 O2):dh n hi L R O L2 R2 O2:=
 ⟨fun f=>(k.ref f).trans (h.ref f),fun f q hf hq h0=>(k.word f q hf hq (by rw[h.ref];exact h0)).trans (h.word f q hf hq h0)⟩
theorem dh.put{n hi:Nat}{L:List Int}{R:Nat→Nat}{O:Own}{g q:Nat}{e:fK}(hl:L.length=n*32)(hg:(g<n∧g<hi)∧q<32)(ho:(O g).isSome=true):dh n hi L R O (kE L g q e) R O:=
 ⟨fun _=>rfl,fun f q' hf hq h0=>by
  have hne:f≠g:=by
   rintro rfl
   rcases h0 with h0|h0
   ·unfold QF at h0;rw[if_pos ho]at h0;exact h0 rfl
   ·omega
  rw[kE,lu _ _ _ _ (by rw[hl];omega),if_neg (by omega)]⟩
theorem dh.take{n hi:Nat}{L:List Int}{R:Nat→Nat}{O:Own}{x:Nat}(hl:L.length=n*32)(hx:x<n∧x<hi)(h0:R x=0)(ho:O x=none)(v:Nat×Option Nat):dh n hi L R O (putRow L x zeros) (upd R x 1) (jX O x (some v)):=
  ⟨fun f=>by
    unfold QF
    by_cases e:f=x
    · subst e;rw[aP,ho,h0];rfl
    · rw[ak _ _ _ _ e,aF _ _ _ _ e],
   fun f q hf hq hQ=>by
    have hne:f≠x:=by
      rintro rfl
      rcases hQ with hQ|hQ
      · unfold QF at hQ;rw[ho,h0]at hQ;exact hQ rfl
      · omega
    rw[nM _ _ _ (by rw[hl];omega),if_neg (by omega)]⟩
theorem dh.drop{n hi:Nat}{L:List Int}{R:Nat→Nat}{O:Own}{g:Nat}(ho:(O g).isSome=true):dh n hi L R O L (upd R g 0) (jX O g none):=
 ⟨fun f=>by
  unfold QF
  by_cases e:f=g
  ·subst e;rw[aP,upd_same,if_pos ho];rfl
  ·rw[ak _ _ _ _ e,aF _ _ _ _ e],fun _ _ _ _ _=>rfl⟩
theorem bQ.find{n lo hi:Nat}{L:List Int}{R:Nat→Nat}{S:Nat→Bool}{W:Nat→Option Sp}{O:Own}(h:bQ n lo hi L R S W O){r:Nat}{F:Sp}(hr:W r=some F)(p:Nat)(hp:p<1024):
  (hasB F (p/32)=true∧∃g:Nat,(lo≤g∧g<hi)∧O g=some (r,some (p/32))∧dO n L (r:Int) ((p/32:Nat):Int)=some (true,false,false,(g:Int))∧dx n L (r:Int) (p:Int)=((true,false,false,(g:Int)),F p))∨(hasB F (p/32)=false∧F p=z0∧dx n L (r:Int) (p:Int)=(z0,z0)):=by
 have e1:(p:Int)/32=((p/32:Nat):Int):=by omega
 have e2:(p:Int)%32=((p%32:Nat):Int):=by omega
 cases hh:hasB F (p/32)with
 |true=>
  obtain⟨g,hg,ho,h1,h2⟩:=h.yes r F (p/32) hr (by omega) hh
  refine Or.inl ⟨rfl,g,hg,ho,h1,?_⟩
  have h3:=h2 (p%32) (by omega)
  rw[show 32*(p/32)+p%32=p by omega]at h3
  unfold dx
  rw[e1,e2,fC h1,if_pos rfl]
  rw[fC h3]
 | false=>
  have h1:=h.no r F (p/32) hr (by omega) hh
  refine Or.inr ⟨rfl,?_,?_⟩
  ·rcases h.fit r F p hr with hz|hf
   ·exact hz
   ·have:=Yk hf.1;rw[hh]at this;cases this
  ·unfold dx
   rw[e1,fC h1,if_neg (by decide)]
theorem bQ.NQ{n lo hi:Nat}{L:List Int}{R:Nat→Nat}{S:Nat→Bool}{W:Nat→Option Sp}{O:Own}(h:bQ n lo hi L R S W O){r:Nat}{F:Sp}(hr:W r=some F)(p:Nat)(hp:p<1024):(dx n L (r:Int) (p:Int)).2=F p:=by
 rcases h.find hr p hp with⟨_,g,_,_,_,e⟩|⟨_,hz,e⟩
 ·rw[e]
 ·rw[e,hz]
theorem bQ.free{n lo hi:Nat}{L:List Int}{R:Nat→Nat}{S:Nat→Bool}{W:Nat→Option Sp}{O:Own}(h:bQ n lo hi L R S W O){x:Nat}(h0:R x=0):O x=none:=by
 cases ho:O x with
 |none=>rfl
 |some v=>have:=h.held x (by rw[ho];rfl);omega
theorem bQ.pos{n lo hi:Nat}{L:List Int}{R:Nat→Nat}{S:Nat→Bool}{W:Nat→Option Sp}{O:Own}(h:bQ n lo hi L R S W O):0<n:=by have:=h.nm;omega
theorem bQ.open_{n lo hi:Nat}{L:List Int}{R:Nat→Nat}{S:Nat→Bool}{W:Nat→Option Sp}{O:Own}(h:bQ n lo hi L R S W O){x:Nat}(hx:(lo≤x∧x<hi))(h0:R x=0):
  bQ n lo hi (putRow L x zeros) (upd R x 1) (pK S x true) (jX W x (some fun _=>z0)) (jX O x (some (x,none)))∧W x=none:=by
 have ho:=h.free h0
 have hn:=h.nm
 have hw:W x=none:=by
  cases hw:W x with
  |none=>rfl
  |some F=>have:=(h.root x F hw).2;rw[ho]at this;cases this
 have hz:∀i,hasB (fun _=>z0) i=false:=fun i=>by
  cases hh:hasB (fun _=>z0) i with
  |false=>rfl
  |true=>obtain⟨j,_,hj⟩:=(jk _ _).1 hh;cases hj
 refine⟨⟨gK h.len (by omega) (by decide),hn,h.top,fun r=>?_,fun r F hr=>?_,fun r F i hr hi hh=>?_,fun r F i hr hi hh=>?_,fun r F p hr=>?_,fun f=>?_,fun f hf=>?_⟩,hw⟩
 ·unfold pK jX
  split
  ·rfl
  ·exact h.sp r
 ·by_cases e:r=x
  ·subst e;exact⟨hx,aP _ _ _⟩
  ·rw[ak _ _ _ _ e]at hr
   rw[ak _ _ _ _ e]
   exact h.root r F hr
 ·by_cases e:r=x
  ·subst e;rw[aP]at hr;cases hr;rw[hz]at hh;cases hh
  ·rw[ak _ _ _ _ e]at hr
   obtain⟨g,hg,hog,h1,h2⟩:=h.yes r F i hr hi hh
   have hgx:g≠x:=by rintro rfl;rw[ho]at hog;cases hog
   have hrm:=(h.root r F hr).1
   refine⟨g,hg,by rw[ak _ _ _ _ hgx];exact hog,by rw[jo h.len (by omega) (by omega) hi e];exact h1,fun j hj=>by rw[jo h.len (by omega) (by omega) hj hgx];exact h2 j hj⟩
 ·by_cases e:r=x
  ·subst e;exact sH h.len (by omega) hi
  ·rw[ak _ _ _ _ e]at hr
   have hrm:=(h.root r F hr).1
   rw[jo h.len (by omega) (by omega) hi e]
   exact h.no r F i hr hi hh
 ·by_cases e:r=x
  ·subst e;rw[aP]at hr;cases hr;exact Or.inl rfl
  ·rw[ak _ _ _ _ e]at hr
   exact h.fit r F p hr
 ·intro hf
  by_cases e:f=x
  ·subst e;exact upd_same _ _ _
  ·rw[ak _ _ _ _ e]at hf;rw[aF _ _ _ _ e];exact h.held f hf
 ·by_cases e:f=x
  ·subst e;exact hx
  ·rw[ak _ _ _ _ e]at hf;exact h.low f hf
theorem bQ.page{n lo hi:Nat}{L:List Int}{R:Nat→Nat}{S:Nat→Bool}{W:Nat→Option Sp}{O:Own}(h:bQ n lo hi L R S W O){r:Nat}{F:Sp}(hr:W r=some F){p g:Nat}(hp:p<1024)(hg:(lo≤g∧g<hi))(hog:O g=some (r,some (p/32)))(hent:dO n L (r:Int) ((p/32:Nat):Int)=some (true,false,false,(g:Int)))(hh:hasB F (p/32)=true){e:fK}(he:e=z0∨mG n e)(hh':hasB (aJ F p e) (p/32)=true):
  bQ n lo hi (kE L g (p%32) e) R S (jX W r (some (aJ F p e))) O:=by
 have hn:=h.nm
 obtain⟨ok,hlo⟩:=GQ h.pos he
 obtain⟨hrm,hor⟩:=h.root r F hr
 have hrg:r≠g:=by rintro rfl;rw[hor]at hog;cases hog
 obtain⟨g2,hg2,adb,h1,h2⟩:=h.yes r F (p/32) hr (by omega) hh
 have far:∀f q:Nat,(lo≤f∧f<hi)→q<32→f≠g→dO n (kE L g (p%32) e) (f:Int) (q:Int)=dO n L (f:Int) (q:Int):=fun f q hf hq hne=>bP h.len (by omega) (by omega) (by omega) hq (Or.inl hne)
 refine⟨by rw[iH];exact h.len,hn,h.top,fun r'=>?_,fun r' F' hr'=>?_,fun r' F' i hr' hi hhi=>?_,fun r' F' i hr' hi hhi=>?_,fun r' F' p' hr'=>?_,h.held,h.low⟩
 ·rw[h.sp r']
  by_cases e':r'=r
  ·subst e';rw[aP,hr];rfl
  ·rw[ak _ _ _ _ e']
 ·by_cases e':r'=r
  ·subst e';exact⟨hrm,hor⟩
  ·rw[ak _ _ _ _ e']at hr';exact h.root r' F' hr'
 ·by_cases e':r'=r
  ·subst e'
   rw[aP]at hr'
   cases hr'
   by_cases ei:i=p/32
   ·subst ei
    obtain rfl:g2=g:=by rw[hent]at h1;simp at h1;omega
    refine⟨g2,hg2,adb,by rw[far _ _ hrm hi hrg];exact h1,fun j hj=>?_⟩
    by_cases ej:j=p%32
    ·rw[ej,iI h.len (by omega) (by omega) ok hlo,show 32*(p/32)+p%32=p by omega,aG]
    ·rw[bP h.len (by omega) (by omega) (by omega) hj (Or.inr ej),aC _ _ _ _ (by omega)]
     exact h2 j hj
   ·rw[nN _ _ _ _ ei]at hhi
    obtain⟨g',hg',iJ,k1,k2⟩:=h.yes r' F i hr hi hhi
    have hgg:g'≠g:=by rintro rfl;rw[hog]at iJ;cases iJ;exact ei rfl
    exact⟨g',hg',iJ,by rw[far _ _ hrm hi hrg];exact k1,fun j hj=>by rw[far _ _ hg' hj hgg,aC _ _ _ _ (by omega)];exact k2 j hj⟩
  ·rw[ak _ _ _ _ e']at hr'
   obtain⟨g',hg',iJ,k1,k2⟩:=h.yes r' F' i hr' hi hhi
   have hgg:g'≠g:=by rintro rfl;rw[hog]at iJ;cases iJ;exact e' rfl
   obtain⟨Bt,Bu⟩:=h.root r' F' hr'
   have Mv:r'≠g:=by rintro rfl;rw[Bu]at hog;cases hog
   exact⟨g',hg',iJ,by rw[far _ _ Bt hi Mv];exact k1,fun j hj=>by rw[far _ _ hg' hj hgg];exact k2 j hj⟩
 ·by_cases e':r'=r
  ·subst e'
   rw[aP]at hr'
   cases hr'
   by_cases ei:i=p/32
   ·subst ei;rw[hh']at hhi;cases hhi
   ·rw[nN _ _ _ _ ei]at hhi
    rw[far _ _ hrm hi hrg]
    exact h.no r' F i hr hi hhi
  ·rw[ak _ _ _ _ e']at hr'
   obtain⟨Bt,Bu⟩:=h.root r' F' hr'
   have Mv:r'≠g:=by rintro rfl;rw[Bu]at hog;cases hog
   rw[far _ _ Bt hi Mv]
   exact h.no r' F' i hr' hi hhi
 ·by_cases e':r'=r
  ·subst e'
   rw[aP]at hr'
   cases hr'
   by_cases ep:p'=p
   ·subst ep;rw[aG];exact he
   ·rw[aC _ _ _ _ ep];exact h.fit r' F p' hr
  ·rw[ak _ _ _ _ e']at hr';exact h.fit r' F' p' hr'
theorem bQ.fresh{n lo hi:Nat}{L:List Int}{R:Nat→Nat}{S:Nat→Bool}{W:Nat→Option Sp}{O:Own}(h:bQ n lo hi L R S W O){r:Nat}{F:Sp}(hr:W r=some F){p x:Nat}(hp:p<1024)(hx:(lo≤x∧x<hi))(h0:R x=0)(hh:hasB F (p/32)=false){e:fK}(he:mG n e):
  bQ n lo hi (kE (kE (putRow L x zeros) r (p/32) (true,false,false,(x:Int))) x (p%32) e) (upd R x 1) S (jX W r (some (aJ F p e))) (jX O x (some (r,some (p/32)))):=by
 have hn:=h.nm
 have ho:=h.free h0
 obtain⟨ok,hlo⟩:=GQ h.pos (Or.inr he)
 obtain⟨hrm,hor⟩:=h.root r F hr
 have hrx:r≠x:=by rintro rfl;rw[hor]at ho;cases ho
 have l1:(putRow L x zeros).length=n*32:=gK h.len (by omega) (by decide)
 have l2:(kE (putRow L x zeros) r (p/32) (true,false,false,(x:Int))).length=n*32:=by rw[iH];exact l1
 have okt:nA true false false (x:Int)=true:=by have:=h.top;simp[nA];omega
 have far:∀f q:Nat,(lo≤f∧f<hi)→q<32→f≠x→(f≠r∨q≠p/32)→dO n (kE (kE (putRow L x zeros) r (p/32) (true,false,false,(x:Int))) x (p%32) e) (f:Int) (q:Int)=dO n L (f:Int) (q:Int):=fun f q hf hq hne hne2=>by
  rw[bP l2 (by omega) (by omega) (by omega) hq (Or.inl hne),bP l1 (by omega) (by omega) (by omega) hq hne2,jo h.len (by omega) (by omega) hq hne]
 have hzero:∀j,j<32→F (32*(p/32)+j)=z0:=fun j hj=>by
  rcases h.fit r F (32*(p/32)+j) hr with hz|hf
  ·exact hz
  ·have:=(jk F (p/32)).2 ⟨j,hj,hf.1⟩
   rw[hh]at this;cases this
 refine⟨by rw[iH];exact l2,hn,h.top,fun r'=>?_,fun r' F' hr'=>?_,fun r' F' i hr' hi hhi=>?_,fun r' F' i hr' hi hhi=>?_,fun r' F' p' hr'=>?_,fun f=>?_,fun f hf=>?_⟩
 ·rw[h.sp r']
  by_cases e':r'=r
  ·subst e';rw[aP,hr];rfl
  ·rw[ak _ _ _ _ e']
 ·by_cases e':r'=r
  ·subst e';exact⟨hrm,by rw[ak _ _ _ _ hrx];exact hor⟩
  ·rw[ak _ _ _ _ e']at hr'
   obtain⟨k1,k2⟩:=h.root r' F' hr'
   exact⟨k1,by rw[ak _ _ _ _ (by rintro rfl;rw[ho]at k2;cases k2)];exact k2⟩
 ·by_cases e':r'=r
  ·subst e'
   rw[aP]at hr'
   cases hr'
   by_cases ei:i=p/32
   ·subst ei
    refine⟨x,hx,aP _ _ _,?_,fun j hj=>?_⟩
    ·rw[bP l2 (by omega) (by omega) (by omega) hi (Or.inl hrx)]
     exact iI l1 (by omega) hi okt (by simp;omega)
    ·by_cases ej:j=p%32
     ·rw[ej,iI l2 (by omega) (by omega) ok hlo,show 32*(p/32)+p%32=p by omega,aG]
     ·rw[bP l2 (by omega) (by omega) (by omega) hj (Or.inr ej),bP l1 (by omega) (by omega) (by omega) hj (Or.inl (Ne.symm hrx)),sH h.len (by omega) hj,aC _ _ _ _ (by omega),hzero j hj]
   ·rw[nN _ _ _ _ ei]at hhi
    obtain⟨g',hg',iJ,k1,k2⟩:=h.yes r' F i hr hi hhi
    have hgx:g'≠x:=by rintro rfl;rw[ho]at iJ;cases iJ
    have hgr:g'≠r':=by rintro rfl;rw[hor]at iJ;cases iJ
    exact⟨g',hg',by rw[ak _ _ _ _ hgx];exact iJ,by rw[far _ _ hrm hi hrx (Or.inr ei)];exact k1,fun j hj=>by rw[far _ _ hg' hj hgx (Or.inl hgr),aC _ _ _ _ (by omega)];exact k2 j hj⟩
  ·rw[ak _ _ _ _ e']at hr'
   obtain⟨g',hg',iJ,k1,k2⟩:=h.yes r' F' i hr' hi hhi
   obtain⟨Bt,Bu⟩:=h.root r' F' hr'
   have hgx:g'≠x:=by rintro rfl;rw[ho]at iJ;cases iJ
   have hgr:g'≠r:=by rintro rfl;rw[hor]at iJ;cases iJ
   have abk:r'≠x:=by rintro rfl;rw[Bu]at ho;cases ho
   exact⟨g',hg',by rw[ak _ _ _ _ hgx];exact iJ,by rw[far _ _ Bt hi abk (Or.inl e')];exact k1,fun j hj=>by rw[far _ _ hg' hj hgx (Or.inl hgr)];exact k2 j hj⟩
 ·by_cases e':r'=r
  ·subst e'
   rw[aP]at hr'
   cases hr'
   by_cases ei:i=p/32
   ·subst ei;rw[wB _ _ _ he.1]at hhi;cases hhi
   ·rw[nN _ _ _ _ ei]at hhi
    rw[far _ _ hrm hi hrx (Or.inr ei)]
    exact h.no r' F i hr hi hhi
  ·rw[ak _ _ _ _ e']at hr'
   obtain⟨Bt,Bu⟩:=h.root r' F' hr'
   have abk:r'≠x:=by rintro rfl;rw[Bu]at ho;cases ho
   rw[far _ _ Bt hi abk (Or.inl e')]
   exact h.no r' F' i hr' hi hhi
 ·by_cases e':r'=r
  ·subst e'
   rw[aP]at hr'
   cases hr'
   by_cases ep:p'=p
   ·subst ep;rw[aG];exact Or.inr he
   ·rw[aC _ _ _ _ ep];exact h.fit r' F p' hr
  ·rw[ak _ _ _ _ e']at hr';exact h.fit r' F' p' hr'
 ·intro hf
  by_cases e:f=x
  ·subst e;exact upd_same _ _ _
  ·rw[ak _ _ _ _ e]at hf;rw[aF _ _ _ _ e];exact h.held f hf
 ·by_cases e:f=x
  ·subst e;exact hx
  ·rw[ak _ _ _ _ e]at hf;exact h.low f hf
theorem bQ.drop{n lo hi:Nat}{L:List Int}{R:Nat→Nat}{S:Nat→Bool}{W:Nat→Option Sp}{O:Own}(h:bQ n lo hi L R S W O){r:Nat}{F:Sp}(hr:W r=some F){p g:Nat}(hp:p<1024)(hg:(lo≤g∧g<hi))(hog:O g=some (r,some (p/32)))(hh':hasB (aJ F p z0) (p/32)=false):
  bQ n lo hi (kE (kE L g (p%32) z0) r (p/32) z0) (upd R g 0) S (jX W r (some (aJ F p z0))) (jX O g none):=by
 have hn:=h.nm
 obtain⟨ok,hlo⟩:=GQ h.pos (Or.inl rfl:z0=z0∨mG n z0)
 obtain⟨hrm,hor⟩:=h.root r F hr
 have hrg:r≠g:=by rintro rfl;rw[hor]at hog;cases hog
 have l1:(kE L g (p%32) z0).length=n*32:=by rw[iH];exact h.len
 have far:∀f q:Nat,(lo≤f∧f<hi)→q<32→f≠g→(f≠r∨q≠p/32)→dO n (kE (kE L g (p%32) z0) r (p/32) z0) (f:Int) (q:Int)=dO n L (f:Int) (q:Int):=fun f q hf hq hne hne2=>by
  rw[bP l1 (by omega) (by omega) (by omega) hq hne2,bP h.len (by omega) (by omega) (by omega) hq (Or.inl hne)]
 refine⟨by rw[iH];exact l1,hn,h.top,fun r'=>?_,fun r' F' hr'=>?_,fun r' F' i hr' hi hhi=>?_,fun r' F' i hr' hi hhi=>?_,fun r' F' p' hr'=>?_,fun f=>?_,fun f hf=>?_⟩
 ·rw[h.sp r']
  by_cases e':r'=r
  ·subst e';rw[aP,hr];rfl
  ·rw[ak _ _ _ _ e']
 ·by_cases e':r'=r
  ·subst e';exact⟨hrm,by rw[ak _ _ _ _ hrg];exact hor⟩
  ·rw[ak _ _ _ _ e']at hr'
   obtain⟨k1,k2⟩:=h.root r' F' hr'
   exact⟨k1,by rw[ak _ _ _ _ (by rintro rfl;rw[hog]at k2;cases k2)];exact k2⟩
 ·by_cases e':r'=r
  ·subst e'
   rw[aP]at hr'
   cases hr'
   by_cases ei:i=p/32
   ·subst ei;rw[hh']at hhi;cases hhi
   ·rw[nN _ _ _ _ ei]at hhi
    obtain⟨g',hg',iJ,k1,k2⟩:=h.yes r' F i hr hi hhi
    have hgg:g'≠g:=by rintro rfl;rw[hog]at iJ;cases iJ;exact ei rfl
    have hgr:g'≠r':=by rintro rfl;rw[hor]at iJ;cases iJ
    exact⟨g',hg',by rw[ak _ _ _ _ hgg];exact iJ,by rw[far _ _ hrm hi hrg (Or.inr ei)];exact k1,fun j hj=>by rw[far _ _ hg' hj hgg (Or.inl hgr),aC _ _ _ _ (by omega)];exact k2 j hj⟩
  ·rw[ak _ _ _ _ e']at hr'
   obtain⟨g',hg',iJ,k1,k2⟩:=h.yes r' F' i hr' hi hhi
   obtain⟨Bt,Bu⟩:=h.root r' F' hr'
   have hgg:g'≠g:=by rintro rfl;rw[hog]at iJ;cases iJ;exact e' rfl
   have hgr:g'≠r:=by rintro rfl;rw[hor]at iJ;cases iJ
   have Mv:r'≠g:=by rintro rfl;rw[Bu]at hog;cases hog
   exact⟨g',hg',by rw[ak _ _ _ _ hgg];exact iJ,by rw[far _ _ Bt hi Mv (Or.inl e')];exact k1,fun j hj=>by rw[far _ _ hg' hj hgg (Or.inl hgr)];exact k2 j hj⟩
 ·by_cases e':r'=r
  ·subst e'
   rw[aP]at hr'
   cases hr'
   by_cases ei:i=p/32
   ·subst ei
    exact iI l1 (by omega) hi ok hlo
   ·rw[nN _ _ _ _ ei]at hhi
    rw[far _ _ hrm hi hrg (Or.inr ei)]
    exact h.no r' F i hr hi hhi
  ·rw[ak _ _ _ _ e']at hr'
   obtain⟨Bt,Bu⟩:=h.root r' F' hr'
   have Mv:r'≠g:=by rintro rfl;rw[Bu]at hog;cases hog
   rw[far _ _ Bt hi Mv (Or.inl e')]
   exact h.no r' F' i hr' hi hhi
 ·by_cases e':r'=r
  ·subst e'
   rw[aP]at hr'
   cases hr'
   by_cases ep:p'=p
   ·subst ep;rw[aG];exact Or.inl rfl
   ·rw[aC _ _ _ _ ep];exact h.fit r' F p' hr
  ·rw[ak _ _ _ _ e']at hr';exact h.fit r' F' p' hr'
 ·intro hf
  by_cases e:f=g
  ·subst e;rw[aP]at hf;cases hf
  ·rw[ak _ _ _ _ e]at hf;rw[aF _ _ _ _ e];exact h.held f hf
 ·by_cases e:f=g
  ·subst e;exact hg
  ·rw[ak _ _ _ _ e]at hf;exact h.low f hf
theorem bQ.close{n lo hi:Nat}{L:List Int}{R:Nat→Nat}{S:Nat→Bool}{W:Nat→Option Sp}{O:Own}(h:bQ n lo hi L R S W O){r:Nat}{F:Sp}(hr:W r=some F):
  bQ n lo hi L (upd R r 0) (pK S r false) (jX W r none) (jX O r none):=by
 obtain⟨hrm,hor⟩:=h.root r F hr
 refine⟨h.len,h.nm,h.top,fun r'=>?_,fun r' F' hr'=>?_,fun r' F' i hr' hi hhi=>?_,fun r' F' i hr' hi hhi=>?_,fun r' F' p' hr'=>?_,fun f=>?_,fun f hf=>?_⟩
 ·unfold pK jX
  split
  ·rfl
  ·exact h.sp r'
 ·by_cases e':r'=r
  ·subst e';rw[aP]at hr';cases hr'
  ·rw[ak _ _ _ _ e']at hr' ⊢;exact h.root r' F' hr'
 ·by_cases e':r'=r
  ·subst e';rw[aP]at hr';cases hr'
  ·rw[ak _ _ _ _ e']at hr'
   obtain⟨g',hg',iJ,k1,k2⟩:=h.yes r' F' i hr' hi hhi
   have hgr:g'≠r:=by rintro rfl;rw[hor]at iJ;cases iJ
   exact⟨g',hg',by rw[ak _ _ _ _ hgr];exact iJ,k1,k2⟩
 ·by_cases e':r'=r
  ·subst e';rw[aP]at hr';cases hr'
  ·rw[ak _ _ _ _ e']at hr';exact h.no r' F' i hr' hi hhi
 ·by_cases e':r'=r
  ·subst e';rw[aP]at hr';cases hr'
  ·rw[ak _ _ _ _ e']at hr';exact h.fit r' F' p' hr'
 ·intro hf
  by_cases e:f=r
  ·subst e;rw[aP]at hf;cases hf
  ·rw[ak _ _ _ _ e]at hf;rw[aF _ _ _ _ e];exact h.held f hf
 ·by_cases e:f=r
  ·subst e;exact hrm
  ·rw[ak _ _ _ _ e]at hf;exact h.low f hf
theorem bQ.UR{n lo hi:Nat}{L:List Int}{R:Nat→Nat}{S:Nat→Bool}{W:Nat→Option Sp}{O:Own}(h:bQ n lo hi L R S W O){r:Nat}{F:Sp}(hr:W r=some F):mF n L (r:Int)=true↔∀i,i<32→hasB F i=false:=by
 rw[EA]
 constructor
 ·intro hb i hi
  cases hh:hasB F i with
  |false=>rfl
  |true=>
   obtain⟨g,_,_,h1,_⟩:=h.yes r F i hr hi hh
   have:=hb i hi
   rw[fC h1]at this;cases this
 ·intro hb i hi
  rw[fC (h.no r F i hr hi (hb i hi))];rfl
theorem UU{n lo hi:Nat}{L:List Int}{R:Nat→Nat}{S:Nat→Bool}{W:Nat→Option Sp}{O:Own}(h:bQ n lo hi L R S W O){r:Nat}{F:Sp}(hr:W r=some F){p g:Nat}(hp:p<1024)(hg:(lo≤g∧g<hi))(hent:dO n L (r:Int) ((p/32:Nat):Int)=some (true,false,false,(g:Int)))(hh:hasB F (p/32)=true):mF n (kE L g (p%32) z0) (g:Int)= !hasB (aJ F p z0) (p/32):=by
 have hn:=h.nm
 obtain⟨ok,hlo⟩:=GQ h.pos (Or.inl rfl:z0=z0∨mG n z0)
 obtain⟨g2,hg2,adb,h1,h2⟩:=h.yes r F (p/32) hr (by omega) hh
 obtain rfl:g2=g:=by rw[hent]at h1;simp at h1;omega
 have hj:∀j:Nat,j<32→lg n (kE L g2 (p%32) z0) (g2:Int) (j:Int)=aJ F p z0 (32*(p/32)+j):=fun j hj=>by
  by_cases ej:j=p%32
  ·rw[ej,fC (iI h.len (by omega) (by omega) ok hlo),show 32*(p/32)+p%32=p by omega,aG]
  ·rw[aC _ _ _ _ (by omega)]
   exact fC (by rw[bP h.len (by omega) (by omega) (by omega) hj (Or.inr ej)];exact h2 j hj)
 rw[Bool.eq_iff_iff,EA]
 constructor
 ·intro hb
  cases hx:hasB (aJ F p z0) (p/32)with
  |false=>rfl
  |true=>
   obtain⟨j,hj1,hj2⟩:=(jk _ _).1 hx
   rw[←hj j hj1,hb j hj1]at hj2;cases hj2
 ·intro hb j hj1
  rw[hj j hj1]
  cases hx:(aJ F p z0 (32*(p/32)+j)).1 with
  |false=>rfl
  |true=>
   have:=(jk (aJ F p z0) (p/32)).2 ⟨j,hj1,hx⟩
   rw[this]at hb;cases hb
def dz(lo hi:Nat)(R:Nat→Nat):Nat:=(bK (lo,hi-lo) R).length
abbrev dD(lo hi:Nat)(T:List (Nat×Nat)):List (Nat×Nat):=(lo,hi-lo)::T
theorem UW(T:List (Nat×Nat))(lo hi:Nat)(R:Nat→Nat):yU (dD lo hi T) R 0=dz lo hi R:=by
 unfold yU
 rw[if_pos (by simp[iF])];rfl
theorem bQ.oC{n lo hi:Nat}{L:List Int}{R:Nat→Nat}{S:Nat→Bool}{W:Nat→Option Sp}{O:Own}(h:bQ n lo hi L R S W O)(r:Int):isSp S r=(lD W r).isSome:=by
 unfold isSp lD
 by_cases h0:0≤r
 ·simp[h0,h.sp]
 ·simp[h0]
theorem ED{lo hi:Nat}{R:Nat→Nat}(T:List (Nat×Nat))(h:dz lo hi R=0)(L:List Int):dA (dD lo hi T) R 0=(0,3)∧fJ (dD lo hi T) R 0 L=L∧fQ (dD lo hi T) R 0=R:=by
 have hp:iF (dD lo hi T) 0=true:=by simp[iF]
 have he:bK ((dD lo hi T).getD (0:Int).toNat (0,0)) R=[]:=List.eq_nil_of_length_eq_zero h
 unfold dA fJ fQ
 simp only[hp,if_true,he]
 exact⟨trivial,trivial,trivial⟩
theorem uZ{lo hi:Nat}{R:Nat→Nat}(T:List (Nat×Nat))(h:dz lo hi R≠0)(L:List Int):∃x:Nat,(lo≤x∧x<hi)∧R x=0∧dA (dD lo hi T) R 0=((x:Int),0)∧fJ (dD lo hi T) R 0 L=putRow L x zeros∧fQ (dD lo hi T) R 0=upd R x 1∧dz lo hi (upd R x 1)+1=dz lo hi R:=by
 have hp:iF (dD lo hi T) 0=true:=by simp[iF]
 unfold dz at h
 cases he:bK (lo,hi-lo) R with
 |nil=>rw[he]at h;exact absurd rfl h
 |cons x r=>
  have he':bK ((dD lo hi T).getD (0:Int).toNat (0,0)) R=x::r:=he
  have hm:=(fB (lo,hi-lo) R x).1 (by rw[he];simp)
  refine⟨x,by have:=hm.1;simp only at this;omega,hm.2,?_,?_,?_,?_⟩
  ·unfold dA;simp only[hp,if_true,he']
  ·unfold fJ;simp only[hp,if_true,he']
  ·unfold fQ;simp only[hp,if_true,he']
  ·unfold dz;rw[AX (lo,hi-lo) R x 1 r he (by decide),he];simp
theorem UY{lo hi g:Nat}{R:Nat→Nat}(T:List (Nat×Nat))(hg:lo≤g∧g<hi)(h1:R g≠0):eH (dD lo hi T) R (g:Int)=0:=by
 have ho:iO (dD lo hi T) (g:Int)=(((0:Nat):Int),0):=Gw _ _ 0 (by simp) (by simp[vF];omega) (fun j hj=>absurd hj (Nat.not_lt_zero _))
 unfold eH;rw[ho,nD];simp;omega
theorem UZ{lo hi g:Nat}{R:Nat→Nat}(T:List (Nat×Nat))(hg:lo≤g∧g<hi)(h1:R g≠0):l6 (dD lo hi T) R (g:Int)=upd R g (R g-1):=by
 unfold l6;rw[if_pos (UY T hg h1),Int.toNat_natCast]
theorem Bv{lo hi g:Nat}{R:Nat→Nat}(hg:lo≤g∧g<hi)(h1:R g≠0):dz lo hi (upd R g 0)=dz lo hi R+1:=by
 obtain⟨a,b⟩:=AY (lo,hi-lo) R g (by simp only;omega) h1
 unfold dz
 rw[b,L6]
theorem NR{lo hi g:Nat}{R:Nat→Nat}(T:List (Nat×Nat))(hg:lo≤g∧g<hi)(h1:R g=1):l6 (dD lo hi T) R (g:Int)=upd R g 0∧dz lo hi (upd R g 0)=dz lo hi R+1:=by
 refine⟨by rw[UZ T hg (by omega),h1],Bv hg (by omega)⟩
theorem bQ.one{n lo hi:Nat}{L:List Int}{R:Nat→Nat}{S:Nat→Bool}{W:Nat→Option Sp}{O:Own}(h:bQ n lo hi L R S W O){g:Nat}{o:Nat×Option Nat}(ho:O g=some o):R g=1∧(lo≤g∧g<hi):=by
 refine⟨h.held g (by rw[ho];rfl),h.low g (by rw[ho];rfl)⟩
theorem bQ.ze{n lo hi:Nat}(T:List (Nat×Nat)){L:List Int}{R:Nat→Nat}{S:Nat→Bool}{W:Nat→Option Sp}{O:Own}(h:bQ n lo hi L R S W O):
  (dz lo hi R=0∧ou (dD lo hi T) L R S=((0,3),L,R,S))∨
  (∃(x:Nat) (L':List Int) (R':Nat→Nat) (O':Own),(lo≤x∧x<hi)∧W x=none∧ou (dD lo hi T) L R S=(((x:Int),0),L',R',pK S x true)∧bQ n lo hi L' R' (pK S x true) (jX W x (some fun _=>z0)) O'∧dz lo hi R'+1=dz lo hi R∧dh n hi L R O L' R' O'):=by
 by_cases h0:dz lo hi R=0
 ·obtain⟨a,b,c⟩:=ED T h0 L
  refine Or.inl ⟨h0,?_⟩
  unfold ou
  rw[a,b,c,if_neg (by decide)]
 ·obtain⟨x,hx,hr,a,b,c,d⟩:=uZ T h0 L
  obtain⟨i1,i2⟩:=h.open_ hx hr
  refine Or.inr ⟨x,_,_,_,hx,i2,?_,i1,d,dh.take h.len (by have:=h.nm;omega) hr (h.free hr) _⟩
  unfold ou
  rw[a,b,c,if_pos rfl];rfl
theorem NS{n lo hi:Nat}{L:List Int}{R:Nat→Nat}{S:Nat→Bool}{W:Nat→Option Sp}{O:Own}(h:bQ n lo hi L R S W O)(r pg:Int)(e:fK)(k:Int):
  aO [0,kF pg,oO n e.1 e.2.1 e.2.2.1 e.2.2.2,bV S r,k]=if cB W r pg (sI n e)=0 then k else cB W r pg (sI n e):=by
 by_cases h1:0≤pg∧pg<1024
 ·cases h2:sI n e with
  | true=>
   cases hs:(lD W r).isSome with
   |true=>
    rw[Bo ⟨h1,rfl⟩ hs,if_pos rfl]
    simp only[aO,wD h1,NM h2,if_true,bV,h.oC,hs]
    exact UO k
   |false=>
    rw[EB ⟨h1,rfl⟩ hs,if_neg (by decide)]
    simp[aO,wD h1,NM h2,bV,h.oC,hs]
  |false=>
   rw[qE (by simp),if_neg (by decide)]
   simp[aO,wD h1,UN h2]
 ·rw[qE (fun hh=>h1 hh.1),if_neg (by decide)]
  simp[aO,JF h1]
theorem ade{n lo hi:Nat}{L:List Int}{R:Nat→Nat}{S:Nat→Bool}{W:Nat→Option Sp}{O:Own}(h:bQ n lo hi L R S W O)(r pg:Int)(k:Int):
  aO [0,kF pg,bV S r,k]=if cB W r pg true=0 then k else cB W r pg true:=by
 by_cases h1:0≤pg∧pg<1024
 ·cases hs:(lD W r).isSome with
  |true=>
   rw[Bo ⟨h1,rfl⟩ hs,if_pos rfl]
   simp only[aO,wD h1,if_true,bV,h.oC,hs]
   exact UO k
  |false=>
   rw[EB ⟨h1,rfl⟩ hs,if_neg (by decide)]
   simp[aO,wD h1,bV,h.oC,hs]
 ·rw[qE (fun hh=>h1 hh.1),if_neg (by decide)]
  simp[aO,JF h1]
theorem bQ.afo{n lo hi:Nat}(T:List (Nat×Nat)){L:List Int}{R:Nat→Nat}{S:Nat→Bool}{W:Nat→Option Sp}{O:Own}(h:bQ n lo hi L R S W O)(r pg:Int)(e:fK):
  ∃(L':List Int) (R':Nat→Nat) (O':Own),mapA n (dD lo hi T) L R S r pg e.1 e.2.1 e.2.2.1 e.2.2.2=(lF n W (dz lo hi R) r pg e,L',R')∧
   (lF n W (dz lo hi R) r pg e=0→bQ n lo hi L' R' S (uW W r pg e) O'∧dz lo hi R'+needs W r pg=dz lo hi R)∧
   (lF n W (dz lo hi R) r pg e≠0→bQ n lo hi L' R' S W O'∧R'=R)∧dh n hi L R O L' R' O':=by
 by_cases h0:cB W r pg (sI n e)=0
 ·obtain⟨k,p,F,rfl,rfl,hp,hw,hfit,hF⟩:=oz h0
  have he:=(wC n e).1 hfit
  have hmp:mpE n L S (k:Int) (p:Int) e.1 e.2.1 e.2.2.1 e.2.2.2=Bg n L (k:Int) (p:Int):=by
   unfold mpE
   rw[NS h,if_pos h0]
  have hme:lF n W (dz lo hi R) (k:Int) (p:Int) e=if(F p).1=true then 5 else if hasB F (p/32)=false∧dz lo hi R=0 then 3 else 0:=by
   unfold lF
   rw[if_pos h0,hF];simp
  have hpw:uW W (k:Int) (p:Int) e=jX W k (some (aJ F p e)):=by unfold uW;rw[hF];simp
  have hnd:needs W (k:Int) (p:Int)=if hasB F (p/32)=true then 0 else 1:=by unfold needs;rw[hF];simp
  rw[hme,hpw,hnd]
  have hu:Bg n L (k:Int) (p:Int)=if(F p).1=true then 5 else 0:=by unfold Bg;rw[h.NQ hw p hp]
  by_cases hfp:(F p).1=true
  ·rw[if_pos hfp]
   refine⟨L,R,O,?_,fun hh=>absurd hh (by decide),fun _=>⟨h,rfl⟩,dh.refl _ _ _ _⟩
   unfold mapA
   rw[hmp,hu,if_pos hfp,if_neg (by decide)]
  ·rw [if_neg hfp]
   have hz:F p=z0:=by
    rcases h.fit k F p hw with hz|hf
    ·exact hz
    ·exact absurd hf.1 hfp
   rcases h.find hw p hp with⟨hh,g,hg,hog,hent,Ym⟩|⟨hh,_,Ym⟩
   ·rw[if_neg (by rw[hh];simp)]
    refine⟨kE L g (p%32) e,R,O,?_,fun _=>⟨h.page hw hp hg hog hent hh (Or.inr he) (wB F p e he.1),by rw[if_pos hh];rfl⟩,fun hne=>absurd rfl hne,dh.put h.len (by have:=h.nm;omega) (by rw[hog];rfl)⟩
    unfold mapA
    rw[hmp,hu,if_neg hfp,if_pos rfl,Ym,if_pos rfl,Bp,sJ]
   ·by_cases hl:dz lo hi R=0
    ·rw[if_pos ⟨hh,hl⟩]
     obtain⟨a,b,c⟩:=ED T hl L
     refine⟨L,R,O,?_,fun hx=>absurd hx (by decide),fun _=>⟨h,rfl⟩,dh.refl _ _ _ _⟩
     unfold mapA
     rw[hmp,hu,if_neg hfp,if_pos rfl,Ym,if_neg (by decide),a,if_neg (by decide)]
    ·rw[if_neg (fun hx=>hl hx.2)]
     obtain⟨x,hx,hr0,a,b,c,d⟩:=uZ T hl L
     refine⟨_,_,_,?_,fun _=>⟨h.fresh hw hp hx hr0 hh he,by rw[if_neg (by rw[hh];decide)];exact d⟩,fun hne=>absurd rfl hne,?_⟩
     ·unfold mapA
      rw[hmp,hu,if_neg hfp,if_pos rfl,Ym,if_neg (by decide),a,if_pos rfl,b,c,Bp,UQ]
      simp only[sJ]
     ·have hn:=h.nm
      have ho:=h.free hr0
      obtain⟨hrm,hor⟩:=h.root k F hw
      have hkx:k≠x:=by rintro rfl;rw[hor]at ho;cases ho
      have k1:=dh.take h.len (show x<n∧x<hi by omega) hr0 ho (k,some (p/32))
      have l1:(putRow L x zeros).length=n*32:=gK h.len (by omega) (by decide)
      refine(k1.trans (dh.put (g:=k) l1 (by omega) ?_)).trans (dh.put (by rw[iH];exact l1) (by omega) ?_)
      ·rw[ak _ _ _ _ hkx,hor];rfl
      ·rw[aP];rfl
 ·have hme:lF n W (dz lo hi R) r pg e=cB W r pg (sI n e):=by unfold lF;rw[if_neg h0]
  rw[hme]
  refine⟨L,R,O,?_,fun hh=>absurd hh h0,fun _=>⟨h,rfl⟩,dh.refl _ _ _ _⟩
  have hmp:mpE n L S r pg e.1 e.2.1 e.2.2.1 e.2.2.2=cB W r pg (sI n e):=by unfold mpE;rw[NS h,if_neg h0]
  unfold mapA
  rw[hmp,if_neg h0]
theorem bQ.U0{n lo hi:Nat}{L:List Int}{R:Nat→Nat}{S:Nat→Bool}{W:Nat→Option Sp}{O:Own}(h:bQ n lo hi L R S W O)(r pg:Int)(e:fK):
  Dp n L S r pg e.1 e.2.1 e.2.2.1 e.2.2.2=iX n W r pg e∧
  (iX n W r pg e=0→bQ n lo hi (uT n L S r pg e.1 e.2.1 e.2.2.1 e.2.2.2) R S (uW W r pg e) O)∧
  (iX n W r pg e≠0→uT n L S r pg e.1 e.2.1 e.2.2.1 e.2.2.2=L)∧dh n hi L R O (uT n L S r pg e.1 e.2.1 e.2.2.1 e.2.2.2) R O:=by
 suffices hs:Dp n L S r pg e.1 e.2.1 e.2.2.1 e.2.2.2=iX n W r pg e∧(iX n W r pg e=0→bQ n lo hi (uT n L S r pg e.1 e.2.1 e.2.2.1 e.2.2.2) R S (uW W r pg e) O∧dh n hi L R O (uT n L S r pg e.1 e.2.1 e.2.2.1 e.2.2.2) R O)∧(iX n W r pg e≠0→uT n L S r pg e.1 e.2.1 e.2.2.1 e.2.2.2=L) by
  refine⟨hs.1,fun h0=>(hs.2.1 h0).1,hs.2.2,?_⟩
  by_cases h0:iX n W r pg e=0
  ·exact(hs.2.1 h0).2
  ·rw[hs.2.2 h0];exact dh.refl _ _ _ _
 by_cases h0:cB W r pg (sI n e)=0
 ·obtain⟨k,p,F,rfl,rfl,hp,hw,hfit,hF⟩:=oz h0
  have he:=(wC n e).1 hfit
  have hse:Dp n L S (k:Int) (p:Int) e.1 e.2.1 e.2.2.1 e.2.2.2=oP n L (k:Int) (p:Int):=by unfold Dp;rw[NS h,if_pos h0]
  have hme:iX n W (k:Int) (p:Int) e=if(F p).1=true then 0 else 4:=by unfold iX;rw[if_pos h0,hF];simp
  have hu:oP n L (k:Int) (p:Int)=if(F p).1=true then 0 else 4:=by unfold oP;rw[h.NQ hw p hp]
  have hpw:uW W (k:Int) (p:Int) e=jX W k (some (aJ F p e)):=by unfold uW;rw[hF];simp
  refine⟨by rw[hse,hu,hme],fun hh=>?_,fun hne=>?_⟩
  ·rw[hme]at hh
   have hfp:(F p).1=true:=by
    by_cases hx:(F p).1=true
    ·exact hx
    ·rw[if_neg hx]at hh;cases hh
   rcases h.find hw p hp with⟨hh,g,hg,hog,hent,Ym⟩|⟨_,hz,_⟩
   ·unfold uT
    rw[hse,hu,if_pos hfp,if_pos rfl,Ym,hpw,Bp,sJ]
    exact⟨h.page hw hp hg hog hent hh (Or.inr he) (wB F p e he.1),dh.put h.len (by have:=h.nm;omega) (by rw[hog];rfl)⟩
   ·rw[hz]at hfp;cases hfp
  ·unfold uT
   rw[hse,hu,←hme,if_neg hne]
 ·have hme:iX n W r pg e=cB W r pg (sI n e):=by unfold iX;rw[if_neg h0]
  have hse:Dp n L S r pg e.1 e.2.1 e.2.2.1 e.2.2.2=cB W r pg (sI n e):=by unfold Dp;rw[NS h,if_neg h0]
  refine⟨by rw[hse,hme],fun hh=>absurd (hme▸hh) h0,fun _=>?_⟩
  unfold uT
  rw[hse,if_neg h0]
theorem qF{n lo hi:Nat}{L:List Int}{R:Nat→Nat}{S:Nat→Bool}{W:Nat→Option Sp}{O:Own}(h:bQ n lo hi L R S W O)(r pg:Int):qD n L S r pg=dX W r pg:=by
 unfold qD dX
 rw[ade h]
 by_cases h0:cB W r pg true=0
 ·obtain⟨k,p,F,rfl,rfl,hp,hw,_,hF⟩:=oz h0
  rw[if_pos h0,if_pos h0,hF]
  unfold oP
  rw[h.NQ hw p hp];simp
 ·rw[if_neg h0,if_neg h0]
theorem bQ.afp{n lo hi:Nat}(T:List (Nat×Nat)){L:List Int}{R:Nat→Nat}{S:Nat→Bool}{W:Nat→Option Sp}{O:Own}(h:bQ n lo hi L R S W O)(r pg:Int):
  ∃(L':List Int) (R':Nat→Nat) (O':Own),xL n (dD lo hi T) L R S r pg=(if dX W r pg=0 then JG W r pg else z0,dX W r pg,L',R')∧
   (dX W r pg=0→bQ n lo hi L' R' S (uW W r pg z0) O'∧dz lo hi R'=dz lo hi R+frees W r pg)∧
   (dX W r pg≠0→bQ n lo hi L' R' S W O'∧R'=R)∧dh n hi L R O L' R' O':=by
 by_cases h0:dX W r pg=0
 ·obtain⟨k,p,F,rfl,rfl,hp,hw,hF,hfp⟩:=y9 h0
  have hpw:uW W (k:Int) (p:Int) z0=jX W k (some (aJ F p z0)):=by unfold uW;rw[hF];simp
  have hfr:frees W (k:Int) (p:Int)=if hasB (aJ F p z0) (p/32)=true then 0 else 1:=by unfold frees;rw[hF];simp
  have hen:JG W (k:Int) (p:Int)=F p:=by unfold JG;rw[hF];simp
  rw[hpw,hfr,hen,h0]
  rcases h.find hw p hp with⟨hh,g,hg,hog,hent,Ym⟩|⟨_,hz,_⟩
  ·have hbt:=UU h hw hp hg hent hh
   have hone:=h.one hog
   obtain⟨hfree,hleft⟩:=NR T hg hone.1
   cases hb:hasB (aJ F p z0) (p/32)with
   |true=>
    refine⟨kE L g (p%32) z0,R,O,?_,fun _=>⟨h.page hw hp hg hog hent hh (Or.inl rfl) hb,rfl⟩,fun hne=>absurd rfl hne,dh.put h.len (by have:=h.nm;omega) (by rw[hog];rfl)⟩
    unfold xL
    rw[qF h,h0,if_pos rfl,if_pos rfl,Ym,Bp,sJ]
    simp only
    rw[hbt,hb];rfl
   | false=>
    refine⟨_,_,_,?_,fun _=>⟨h.drop hw hp hg hog hb,hleft⟩,fun hne=>absurd rfl hne,?_⟩
    ·unfold xL
     rw[qF h,h0,if_pos rfl,if_pos rfl,Ym,Bp,UQ]
     simp only[sJ]
     rw[hbt,hb,hfree];rfl
    ·have hn:=h.nm
     obtain⟨hrm,hor⟩:=h.root k F hw
     exact((dh.put h.len (by have:=h.nm;omega) (by rw[hog];rfl)).trans (dh.put (g:=k) (by rw[iH];exact h.len) (by omega) (by rw[hor];rfl))).trans (dh.drop (by rw[hog];rfl))
  ·rw[hz]at hfp;cases hfp
 ·refine⟨L,R,O,?_,fun hh=>absurd hh h0,fun _=>⟨h,rfl⟩,dh.refl _ _ _ _⟩
  unfold xL
  rw[qF h,if_neg h0,if_neg h0]
theorem bQ.afq{n lo hi:Nat}{L:List Int}{R:Nat→Nat}{S:Nat→Bool}{W:Nat→Option Sp}{O:Own}(h:bQ n lo hi L R S W O)(r pg:Int):GJ n L S r pg=if dX W r pg=0 then(JG W r pg,true)else(z0,false):=by
 unfold GJ
 rw[qF h]
 by_cases h0:dX W r pg=0
 ·obtain⟨k,p,F,rfl,rfl,hp,hw,hF,hfp⟩:=y9 h0
  rw[if_pos h0,if_pos h0,h.NQ hw p hp]
  unfold JG;rw[hF];simp
 ·rw[if_neg h0,if_neg h0]
theorem bQ.afr{n lo hi:Nat}(T:List (Nat×Nat)){L:List Int}{R:Nat→Nat}{S:Nat→Bool}{W:Nat→Option Sp}{O:Own}(h:bQ n lo hi L R S W O)(r:Int):
  ∃(R':Nat→Nat) (S':Nat→Bool) (O':Own),nI n (dD lo hi T) L R S r=(kG W r,R',S')∧
   (kG W r=0→bQ n lo hi L R' S' (jX W r.toNat none) O'∧dz lo hi R'=dz lo hi R+1)∧
   (kG W r≠0→R'=R∧S'=S)∧dh n hi L R O L R' O':=by
 have hce:xM n L S r=kG W r:=by
  unfold xM kG
  cases hs:lD W r with
  |none=>simp[aO,bV,h.oC,hs]
  |some F=>
   obtain⟨k,rfl,hw⟩:=pR hs
   simp only[aO,if_true,bV,h.oC,hs,Option.isSome_some]
   have hb:mF n L (k:Int)=xP F:=by rw[Bool.eq_iff_iff,h.UR hw,Bq]
   have:oU n L (k:Int)=if xP F=true then 0 else 9:=by unfold oU;rw[hb]
   rw[this]
   by_cases he:xP F=true
   ·simp[he]
   ·simp[he]
 by_cases h0:kG W r=0
 ·cases hs:lD W r with
  |none=>unfold kG at h0;rw[hs]at h0;cases h0
  |some F=>
   obtain⟨k,rfl,hw⟩:=pR hs
   obtain⟨hrm,hor⟩:=h.root k F hw
   have hone:=h.one hor
   obtain⟨hfree,hleft⟩:=NR T hrm hone.1
   refine⟨_,_,_,?_,fun _=>⟨by rw[Int.toNat_natCast];exact h.close hw,hleft⟩,fun hne=>absurd h0 hne,dh.drop (by rw[hor];rfl)⟩
   unfold nI
   rw[hce,if_pos h0,h0,hfree];rfl
 ·refine⟨R,S,O,?_,fun hh=>absurd hh h0,fun _=>⟨rfl,rfl⟩,dh.refl _ _ _ _⟩
  unfold nI
  rw[hce,if_neg h0]
theorem bQ.xQ{n lo hi:Nat}{L:List Int}{R:Nat→Nat}{S:Nat→Bool}{W:Nat→Option Sp}{O:Own}(h:bQ n lo hi L R S W O){r:Nat}{F:Sp}(hr:W r=some F):
  ∀k,k≤32→(cu n L (r:Int) k).length=((List.range k).filter (hasB F)).length∧iW n L (cu n L (r:Int) k)=uX F 0 (32*k)
 |0,_=>⟨rfl,rfl⟩
 | k +1,hk=>by
  obtain⟨h1,h2⟩:=h.xQ hr k (by omega)
  rw[List.range_succ,List.filter_append,List.length_append,show 32*(k+1)=32*k+32 by omega,JH,Nat.zero_add,←h2,←h1]
  cases hh:hasB F k with
  | true=>
   obtain⟨g,hg,hog,e1,e2⟩:=h.yes r F k hr (by omega) hh
   have ht:∀j,j≤32→pQ (k:Int) (cu n L (g:Int) j)=uX F (32*k) j:=by
    intro j
    induction j with
    |zero=>intro _;rfl
    | succ j ih=>
     intro hj
     have e3:=fC (e2 j (by omega))
     rw[uX,←ih (by omega)]
     cases hp:(F (32*k+j)).1 with
     |true=>
      rw[lC e3 hp,Bl,if_pos rfl]
      simp only[List.append_cancel_left_eq,List.cons.injEq,Prod.mk.injEq,and_true]
      omega
     |false=>
      rw[tT (by rw[e3];exact hp)];simp
   rw[lC (fC e1) rfl,yZ,List.length_append]
   refine⟨by simp[hh],?_⟩
   rw[←ht 32 (by omega)];rfl
  | false=>
   have e1:=h.no r F k hr (by omega) hh
   rw[tT (by rw[fC e1];rfl),EC F (32*k) 32 (fun j hj=>by
    cases hx:(F (32*k+j)).1 with
    |false=>rfl
    |true=>have:=(jk F k).2 ⟨j,hj,hx⟩;rw[hh]at this;cases this)]
   simp[hh]
theorem bQ.afs{n lo hi:Nat}{L:List Int}{R:Nat→Nat}{S:Nat→Bool}{W:Nat→Option Sp}{O:Own}(h:bQ n lo hi L R S W O)(r:Int):JD n L S r=Js W r:=by
 unfold JD Js
 rw[UE]
 unfold bV
 rw[h.oC]
 cases hs:lD W r with
 |none=>simp
 |some F=>
  obtain⟨k,rfl,hw⟩:=pR hs
  simp only[Option.isSome_some,if_true]
  unfold uY gX
  rw[(h.xQ hw 32 (by omega)).1]
theorem bQ.aft{n lo hi:Nat}{L:List Int}{R:Nat→Nat}{S:Nat→Bool}{W:Nat→Option Sp}{O:Own}(h:bQ n lo hi L R S W O)(r:Int):allA n L S r=Yl W r:=by
 unfold allA Yl
 rw[UE]
 unfold bV
 rw[h.oC]
 cases hs:lD W r with
 |none=>simp
 |some F=>
  obtain⟨k,rfl,hw⟩:=pR hs
  simp only[Option.isSome_some,if_true]
  unfold ab2 gX Mt
  rw[(h.xQ hw 32 (by omega)).2]
end Go.Proofs.YtammlljefhakmaaGreatDoor
namespace Go.Proofs.YtammlljefhakmaaGreatDoor
open Go.RowKit Go.Maps
set_option maxRecDepth 100000
theorem bQ.other{n lo hi:Nat}{L L':List Int}{R R':Nat→Nat}{S:Nat→Bool}{W:Nat→Option Sp}{O:Own}(h:bQ n lo hi L R S W O)(hl:L'.length=n*32)(hR:∀f,(O f).isSome=true→R' f=R f)(hL:∀f q,(O f).isSome=true→q<32→L'.getD (f*32+q) 0=L.getD (f*32+q) 0):bQ n lo hi L' R' S W O:=by
 have hE:∀f q:Nat,(O f).isSome=true→q<32→dO n L' (f:Int) (q:Int)=dO n L (f:Int) (q:Int):=fun f q hf hq=>by
  have:=(h.low f hf).2
  have:=h.nm
  rw[jP (by omega) hq,jP (by omega) hq,hL f q hf hq]
 refine⟨hl,h.nm,h.top,h.sp,h.root,fun r F i hr hi hh=>?_,fun r F i hr hi hh=>?_,h.fit,fun f hf=>(hR f hf).trans (h.held f hf),h.low⟩
 ·obtain⟨g,hg,hog,h1,h2⟩:=h.yes r F i hr hi hh
  have hor:=(h.root r F hr).2
  exact⟨g,hg,hog,by rw[hE r i (by rw[hor];rfl) hi];exact h1,fun j hj=>by rw[hE g j (by rw[hog];rfl) hj];exact h2 j hj⟩
 ·have hor:=(h.root r F hr).2
  rw[hE r i (by rw[hor];rfl) hi]
  exact h.no r F i hr hi hh
structure bM(W0 w:World)(tb sb:Nat)(X:bA)(n lo hi c:Nat)(W:Nat→Option Sp)(Q:Nat→Nat)(V:Nat→Nat→Int):Prop where
 ex:∃L R S O T,Mg W0 w tb sb X L R S∧bQ n lo hi L R S W O∧dz lo hi R=c∧X.P=dD lo hi T∧(∀f,Q f=QF R O f)∧(∀f q,f<n→q<32→Q f≠0→V f q=L.getD (f*32+q) 0)∧(∀f,Q f≠0→lo≤f∧f<hi)∧∀f q,f<n→q<32→hi≤f→L.getD (f*32+q) 0=X.kw f q
 hn:X.n=n
structure mH(W0 w w':World)(tb sb:Nat)(X:bA)(n lo hi c:Nat)(W:Nat→Option Sp)(Q:Nat→Nat)(V:Nat→Nat→Int):Prop where
 st:bM W0 w' tb sb X n lo hi c W Q V
 only:Only w w' (Zw X sb)
section
variable {W0 w:World} {tb sb n lo hi c:Nat} {X:bA} {W:Nat→Option Sp} {Q:Nat→Nat} {V:Nat→Nat→Int}
theorem bM.kept{w':World}(h:bM W0 w tb sb X n lo hi c W Q V){B:Nat→Prop}(ho:Only w w' B)(hB:∀k,X.all k∨k=sb∨k=tb→¬B k)(hb:Below W0.heap.size W0 w'):bM W0 w' tb sb X n lo hi c W Q V:=by
 obtain⟨L,R,S,O,T,h1,r⟩:=h.ex
 refine⟨⟨L,R,S,O,T,⟨⟨h1.own.st.kept ho (fun k hk=>hB k (Or.inl hk)),hb,h1.own.new,h1.own.laid⟩,h1.lw,h1.wd,ho.kept h1.box (hB _ (Or.inr (Or.inr rfl))),h1.jh.same (ho.block _ h1.jh.lt (hB _ (Or.inr (Or.inl rfl)))),h1.nt,h1.ns,h1.ne,h1.low⟩,r⟩,h.hn⟩
theorem bM.step{w':World}(h:bM W0 w tb sb X n lo hi c W Q V)(hb:Below w.heap.size w w'):bM W0 w' tb sb X n lo hi c W Q V:=by
 obtain⟨L,R,S,O,T,h1,r⟩:=h.ex
 exact⟨⟨L,R,S,O,T,h1.step hb,r⟩,h.hn⟩
theorem bM.below(h:bM W0 w tb sb X n lo hi c W Q V):Below W0.heap.size W0 w:=by
 obtain⟨L,R,S,O,T,h1,r⟩:=h.ex
 exact h1.own.below
theorem bM.NU(h:bM W0 w tb sb X n lo hi c W Q V):aN w:=by
 obtain⟨L,R,S,O,T,h1,r⟩:=h.ex
 exact h1.Js
theorem bM.other{cs:Array Value}{t:TypeId}{z:Nat×Nat}{b:Nat}(h:bM W0 w tb sb X n lo hi c W Q V)(hb:w.heap[b]? =some (.cells cs t z))(ht:t≠278∧t≠231∧t≠115∧t≠110∧t≠148):¬Zw X sb b:=fun hk=>by
 obtain⟨L,R,S,O,T,h1,r⟩:=h.ex
 rcases hk with hk|rfl
 ·exact h1.own.st.other hb ht (Or.inl hk)
 ·obtain⟨es,ck,hm⟩:=h1.jh.isMap
  rw[hm]at hb;cases hb
theorem bM.kind(h:bM W0 w tb sb X n lo hi c W Q V)(k:Nat)(hk:X.all k∨k=sb∨k=tb):W0.heap.size≤k∧∃o,w.heap[k]? =some o∧((kindOf o=none∧(k=X.mb∨k=sb))∨kindOf o=some 278∨kindOf o=some 231∨kindOf o=some 115∨kindOf o=some 110∨kindOf o=some 148∨kindOf o=some 261):=by
 obtain⟨L,R,S,O,T,h1,r⟩:=h.ex
 rcases hk with hk|rfl|rfl
 ·refine⟨h1.own.new k hk,?_⟩
  obtain⟨o,ho,hx⟩:=h1.own.st.kind k hk
  refine⟨o,ho,?_⟩
  rcases hx with e|e|e|e|e|e
  ·rcases hk with(e1|e1|e1)|e1|e1|e1
   ·rw[e1,h1.own.st.mem.row]at ho;cases ho;cases e
   ·exact Or.inl ⟨e,Or.inl e1⟩
   ·obtain⟨t,ht,e2⟩:=List.mem_map.1 e1
    obtain⟨i,hi,e3⟩:=List.getElem_of_mem ht
    have:=(h1.own.st.sets i hi).box
    rw[List.getD_eq_getElem?_getD,List.getElem?_eq_getElem hi,Option.getD_some,e3,e2,ho]at this
    cases this;cases e
   ·rw[e1,h1.own.st.box]at ho;cases ho;cases e
   ·rw[e1,h1.own.st.mem.box]at ho;cases ho;cases e
   ·obtain⟨cs,hcs⟩:=bE h1.own.st.parts e1
    rw[hcs]at ho;cases ho;cases e
  ·exact Or.inr (Or.inl e)
  ·exact Or.inr (Or.inr (Or.inl e))
  ·exact Or.inr (Or.inr (Or.inr (Or.inl e)))
  ·exact Or.inr (Or.inr (Or.inr (Or.inr (Or.inl e))))
  ·exact Or.inr (Or.inr (Or.inr (Or.inr (Or.inr (Or.inl e)))))
 ·obtain⟨es,ck,hm⟩:=h1.jh.isMap
  exact⟨h1.ns,_,hm,Or.inl ⟨rfl,Or.inr rfl⟩⟩
 ·exact⟨h1.nt,_,h1.box,Or.inr (Or.inr (Or.inr (Or.inr (Or.inr (Or.inr rfl)))))⟩
theorem bM.facts(h:bM W0 w tb sb X n lo hi c W Q V):lo<hi∧hi≤n∧n≤1024∧(∀f,Q f≤64)∧(∀f,Q f≠0→lo≤f∧f<hi)∧(∀f q,q<32→Q f≠0→0≤V f q∧V f q<4294967296)∧(∀r F p,W r=some F→F p=z0∨mG n (F p))∧(∀r,(W r).isSome=true→lo≤r∧r<hi∧Q r=0):=by
 obtain⟨L,R,S,O,T,h1,h2,h3,h4,h5,h6,h7,_⟩:=h.ex
 refine⟨h2.nm.1,h2.nm.2,h2.top,fun f=>?_,h7,fun f q hq h0=>?_,h2.fit,fun r hr=>?_⟩
 ·rw[h5];unfold QF
  split
  ·omega
  ·exact h1.own.st.fit.most f
 ·rw[h6 f q (by have:=h7 f h0;have:=h2.nm;omega) hq h0];exact h1.wd _
 ·obtain⟨F,hF⟩:=Option.isSome_iff_exists.1 hr
  obtain⟨k1,k2⟩:=h2.root r F hF
  refine⟨k1.1,k1.2,?_⟩
  rw[h5];unfold QF;rw[k2];rfl
theorem bM.tabs{L L':List Int}{R R':Nat→Nat}{S':Nat→Bool}{O O':Own}{T:List (Nat×Nat)}{w':World}{W':Nat→Option Sp}{c':Nat}(hn:X.n=n)(hP:X.P=dD lo hi T)(hQ:∀f,Q f=QF R O f)(hV:∀f q,f<n→q<32→Q f≠0→V f q=L.getD (f*32+q) 0)(hr:∀f,Q f≠0→lo≤f∧f<hi)(hkw:∀f q,f<n→q<32→hi≤f→L.getD (f*32+q) 0=X.kw f q)(ht:fT W0 w w' tb sb X L' R' S')(hi':bQ n lo hi L' R' S' W' O')(hl:dz lo hi R'=c')(hd:dh n hi L R O L' R' O'):mH W0 w w' tb sb X n lo hi c' W' Q V:=
 ⟨⟨⟨L',R',S',O',T,ht.st,hi',hl,hP,fun f=>(hQ f).trans (hd.ref f).symm,fun f q hf hq h0=>by rw[hV f q hf hq h0,hd.word f q hf hq (Or.inl (by rw[←hQ];exact h0))],hr,fun f q hf hq h0=>(hd.word f q hf hq (Or.inr h0)).trans (hkw f q hf hq h0)⟩,hn⟩,ht.only⟩
def Qw(W0 w:World)(tb sb:Nat)(X:bA)(n lo hi c:Nat)(W:Nat→Option Sp)(Q:Nat→Nat)(V:Nat→Nat→Int)(e:Ending)(w':World):Prop:=
 (c=0∧e= .returned (.tuple #[.int .i64 0, .int .i64 3])∧mH W0 w w' tb sb X n lo hi c W Q V)∨
 (∃x:Nat,(lo≤x∧x<hi)∧W x=none∧1≤c∧e= .returned (.tuple #[.int .i64 (x:Int), .int .i64 0])∧mH W0 w w' tb sb X n lo hi (c-1) (jX W x (some fun _=>z0)) Q V)
theorem bM.open_(h:bM W0 w tb sb X n lo hi c W Q V):Calls Tryz.prog 155 #[.pointer (some ⟨tb,0,none⟩)] w (Qw W0 w tb sb X n lo hi c W Q V):=by
 obtain⟨L,R,S,O,T,k1,k2,k3,k4,k5,k6,k7,k8⟩:=h.ex
 rcases k2.ze T with⟨h0,ho⟩|⟨x,L',R',O',hx,hw,ho,hi',hl,hd⟩
 ·exact(k1.open_ k4 ho).mono fun e w' ⟨he,ht⟩=>Or.inl ⟨by omega,he,bM.tabs h.hn k4 k5 k6 k7 k8 ht k2 k3 (dh.refl _ _ _ _)⟩
 ·exact(k1.open_ k4 ho).mono fun e w' ⟨he,ht⟩=>Or.inr ⟨x,hx,hw,by omega,he,bM.tabs h.hn k4 k5 k6 k7 k8 ht hi' (by omega) hd⟩
theorem bM.map(h:bM W0 w tb sb X n lo hi c W Q V)(r pg:Int)(p x k:Bool)(g:Int)(hr:I64 r)(hp:I64 pg):
  Calls Tryz.prog 160 #[.pointer (some ⟨tb,0,none⟩), .int .i64 r, .int .i64 pg,ent p x k g] w fun e w'=>e= .returned (.int .i64 (lF n W c r pg (p,x,k,g)))∧mH W0 w w' tb sb X n lo hi (abd n c W r pg (p,x,k,g)) (abe n c W r pg (p,x,k,g)) Q V:=by
 obtain⟨L,R,S,O,T,k1,k2,rfl,k4,k5,k6,k7,k8⟩:=h.ex
 obtain⟨L',R',O',ho,y1,y2,y3⟩:=k2.afo T r pg (p,x,k,g)
 refine(k1.afm h.hn k4 hr hp ho).mono fun e w' ⟨he,ht⟩=>⟨he,?_⟩
 unfold abd abe
 by_cases h0:lF n W (dz lo hi R) r pg (p,x,k,g)=0
 ·obtain⟨i1,i2⟩:=y1 h0
  rw[if_pos h0,if_pos h0]
  exact bM.tabs h.hn k4 k5 k6 k7 k8 ht i1 (by omega) y3
 ·obtain⟨i1,rfl⟩:=y2 h0
  rw[if_neg h0,if_neg h0]
  exact bM.tabs h.hn k4 k5 k6 k7 k8 ht i1 rfl y3
theorem bM.set(h:bM W0 w tb sb X n lo hi c W Q V)(r pg:Int)(p x k:Bool)(g:Int)(hr:I64 r)(hp:I64 pg):
  Calls Tryz.prog 161 #[.pointer (some ⟨tb,0,none⟩), .int .i64 r, .int .i64 pg,ent p x k g] w fun e w'=>e= .returned (.int .i64 (iX n W r pg (p,x,k,g)))∧mH W0 w w' tb sb X n lo hi c (setW n W r pg (p,x,k,g)) Q V:=by
 obtain⟨L,R,S,O,T,k1,k2,k3,k4,k5,k6,k7,k8⟩:=h.ex
 obtain⟨ho,y1,y2,y3⟩:=k2.U0 r pg (p,x,k,g)
 refine(k1.afn h.hn hr hp ho rfl).mono fun e w' ⟨he,ht⟩=>⟨he,?_⟩
 unfold setW
 by_cases h0:iX n W r pg (p,x,k,g)=0
 ·rw[if_pos h0]
  exact bM.tabs h.hn k4 k5 k6 k7 k8 ht (y1 h0) k3 y3
 ·rw[if_neg h0]
  rw[y2 h0]at ht y3
  exact bM.tabs h.hn k4 k5 k6 k7 k8 ht k2 k3 y3
theorem bM.unmap(h:bM W0 w tb sb X n lo hi c W Q V)(r pg:Int)(hr:I64 r)(hp:I64 pg){p x k:Bool}{g:Int}(he:Br W r pg=(p,x,k,g)):
  Calls Tryz.prog 142 #[.pointer (some ⟨tb,0,none⟩), .int .i64 r, .int .i64 pg] w fun e w'=>e= .returned (.tuple #[ent p x k g, .int .i64 (dX W r pg)])∧mH W0 w w' tb sb X n lo hi (abf c W r pg) (abg W r pg) Q V:=by
 obtain⟨L,R,S,O,T,k1,k2,rfl,k4,k5,k6,k7,k8⟩:=h.ex
 obtain⟨L',R',O',ho,y1,y2,y3⟩:=k2.afp T r pg
 unfold Br at he
 rw[he]at ho
 refine(k1.ab5 h.hn k4 hr hp ho).mono fun e w' ⟨he,ht⟩=>⟨he,?_⟩
 unfold abf abg
 by_cases h0:dX W r pg=0
 ·obtain⟨i1,i2⟩:=y1 h0
  rw[if_pos h0,if_pos h0]
  exact bM.tabs h.hn k4 k5 k6 k7 k8 ht i1 i2 y3
 ·obtain⟨i1,rfl⟩:=y2 h0
  rw[if_neg h0,if_neg h0]
  exact bM.tabs h.hn k4 k5 k6 k7 k8 ht i1 rfl y3
theorem bM.query(h:bM W0 w tb sb X n lo hi c W Q V)(r pg:Int)(hr:I64 r)(hp:I64 pg){p x k:Bool}{g:Int}(he:Br W r pg=(p,x,k,g)):
  Calls Tryz.prog 136 #[.pointer (some ⟨tb,0,none⟩), .int .i64 r, .int .i64 pg] w fun e w'=>e= .returned (.tuple #[ent p x k g, .bool (decide (dX W r pg=0))])∧Below w.heap.size w w':=by
 obtain⟨L,R,S,O,T,k1,k2,_⟩:=h.ex
 refine k1.ab6 h.hn hr hp ?_
 rw[k2.afq,←he]
 unfold Br
 by_cases h0:dX W r pg=0
 ·simp[h0]
 ·simp[h0]
theorem bM.close(h:bM W0 w tb sb X n lo hi c W Q V)(r:Int)(hr:I64 r):
  Calls Tryz.prog 109 #[.pointer (some ⟨tb,0,none⟩), .int .i64 r] w fun e w'=>e= .returned (.int .i64 (kG W r))∧mH W0 w w' tb sb X n lo hi (abh c W r) (abj W r) Q V:=by
 obtain⟨L,R,S,O,T,k1,k2,rfl,k4,k5,k6,k7,k8⟩:=h.ex
 obtain⟨R',S',O',ho,y1,y2,y3⟩:=k2.afr T r
 refine(k1.close_ h.hn k4 hr ho).mono fun e w' ⟨he,ht⟩=>⟨he,?_⟩
 unfold abh abj
 by_cases h0:kG W r=0
 ·obtain⟨i1,i2⟩:=y1 h0
  rw[if_pos h0,if_pos h0]
  exact bM.tabs h.hn k4 k5 k6 k7 k8 ht i1 i2 y3
 ·obtain⟨rfl,rfl⟩:=y2 h0
  rw[if_neg h0,if_neg h0]
  exact bM.tabs h.hn k4 k5 k6 k7 k8 ht k2 rfl (dh.refl _ _ _ _)
theorem bM.tables(h:bM W0 w tb sb X n lo hi c W Q V)(r:Int)(hr:I64 r):
  Calls Tryz.prog 156 #[.pointer (some ⟨tb,0,none⟩), .int .i64 r] w fun e w'=>e= .returned (.int .i64 (Js W r:Int))∧Below w.heap.size w w':=by
 obtain⟨L,R,S,O,T,k1,k2,_⟩:=h.ex
 refine k1.Yh h.hn hr ?_
 rw[k2.afs]
theorem bM.all(h:bM W0 w tb sb X n lo hi c W Q V)(r:Int)(hr:I64 r):
  Calls Tryz.prog 157 #[.pointer (some ⟨tb,0,none⟩), .int .i64 r] w (wu w (Yl W r)):=by
 obtain⟨L,R,S,O,T,k1,k2,_⟩:=h.ex
 have:=Yf k1 r hr
 rw[h.hn,k2.aft]at this
 exact this
theorem bM.left(h:bM W0 w tb sb X n lo hi c W Q V):Calls Tryz.prog 35 #[.pointer (some ⟨X.pb,0,none⟩), .int .i64 0] w fun e w'=>e= .returned (.int .i64 (c:Int))∧Below w.heap.size w w':=by
 obtain⟨L,R,S,O,T,k1,k2,rfl,k4,_⟩:=h.ex
 refine XJ (X:=X) ?_ k1.own.st
 rw[k4];exact UW T lo hi R
theorem JI{R:Nat→Nat}{O:Own}{f:Nat}(h:QF R O f≠0):O f=none∧QF R O f=R f:=by
 unfold QF at h ⊢
 cases ho:O f with
 |none=>exact⟨rfl,rfl⟩
 |some v=>rw[ho]at h;exact absurd rfl h
theorem Mw{R:Nat→Nat}{O:Own}{f v:Nat}(h:O f=none)(g:Nat):QF (upd R f v) O g=upd (QF R O) f v g:=by
 unfold QF
 by_cases e:g=f
 ·subst e;rw[h,upd_same,upd_same];rfl
 ·rw[aF _ _ _ _ e,aF _ _ _ _ e]
theorem bM.refs(h:bM W0 w tb sb X n lo hi c W Q V)(f:Nat)(h0:Q f≠0):Calls Tryz.prog 189 #[.pointer (some ⟨X.pb,0,none⟩), .int .i64 (f:Int)] w fun e w'=>e= .returned (.int .i64 (Q f:Int))∧w=w':=by
 obtain⟨L,R,S,O,T,k1,k2,rfl,k4,k5,k6,k7,k8⟩:=h.ex
 have:=k7 f h0
 have:=k2.nm
 have:=k2.top
 refine XI ?_ k1.own.st (by unfold I64;omega)
 rw[nD,k5 f]
 rw[k5]at h0
 rw[(JI h0).2]
def jE(V:Nat→Nat→Int)(x:Nat):Nat→Nat→Int:=fun f q=>if f=x then 0 else V f q
def Mx(W0 w:World)(tb sb:Nat)(X:bA)(n lo hi c:Nat)(W:Nat→Option Sp)(Q:Nat→Nat)(V:Nat→Nat→Int)(e:Ending)(w':World):Prop:=
 ∃x:Nat,(lo≤x∧x<hi)∧Q x=0∧W x=none∧e= .returned (.tuple #[.int .i64 (x:Int), .int .i64 0])∧mH W0 w w' tb sb X n lo hi (c-1) W (upd Q x 1) (jE V x)
theorem bM.alloc(h:bM W0 w tb sb X n lo hi c W Q V)(hc:c≠0):Calls Tryz.prog 185 #[.pointer (some ⟨X.pb,0,none⟩), .int .i64 0] w (Mx W0 w tb sb X n lo hi c W Q V):=by
 obtain⟨L,R,S,O,T,k1,k2,rfl,k4,k5,k6,k7,k8⟩:=h.ex
 obtain⟨x,hx,hr0,a,b,cc,d⟩:=uZ T hc L
 have hn:=k2.nm
 have hO:=k2.free hr0
 rw[←k4]at a b cc
 have hw:=sD k1.own.st.fit k1.own.st.mem.len k1.wd
 rw[b]at hw
 refine(Bc a b cc k1.own.st k1.own.table).mono fun e w' ⟨he,hm⟩=>?_
 have ht:=k1.move hm hw
 have hxn:∀f,(O f).isSome=true→f≠x:=fun f hf e=>by rw[e,hO]at hf;cases hf
 refine⟨x,hx,by rw[k5];unfold QF;rw[hO,hr0];rfl,?_,he,⟨⟨_,_,S,O,T,ht.st,k2.other (gK k2.len (by omega) (by decide)) (fun f hf=>aF _ _ _ _ (hxn f hf)) (fun f q hf hq=>?_),by omega,k4,fun f=>?_,fun f q hf hq h0=>?_,fun f h0=>?_,fun f q hf hq h0=>by rw[nM _ _ _ (by rw[k2.len];omega),if_neg (by omega),k8 f q hf hq h0]⟩,h.hn⟩,ht.only⟩
 ·cases hw':W x with
  |none=>rfl
  |some F=>have:=(k2.root x F hw').2;rw[hO]at this;cases this
 ·have:=hxn f hf
  rw[nM _ _ _ (by rw[k2.len];omega),if_neg (by omega)]
 ·rw[Mw hO]
  unfold upd
  split
  ·rfl
  ·exact k5 f
 ·unfold jE
  by_cases e:f=x
  ·subst e
   rw[if_pos rfl,nM _ _ _ (by rw[k2.len];omega),if_pos ⟨by omega,by omega⟩]
  ·rw[aF _ _ _ _ e]at h0
   rw[if_neg e,nM _ _ _ (by rw[k2.len];omega),if_neg (by omega),k6 f q hf hq h0]
 ·by_cases e:f=x
  ·subst e;exact hx
  ·rw[aF _ _ _ _ e]at h0;exact k7 f h0
theorem bM.share(h:bM W0 w tb sb X n lo hi c W Q V)(f:Nat)(h0:Q f≠0)(h1:Q f<64):Calls Tryz.prog 162 #[.pointer (some ⟨X.pb,0,none⟩), .int .i64 (f:Int)] w fun e w'=>e= .returned (.int .i64 0)∧mH W0 w w' tb sb X n lo hi c W (upd Q f (Q f+1)) V:=by
 obtain⟨L,R,S,O,T,k1,k2,rfl,k4,k5,k6,k7,k8⟩:=h.ex
 have hf:=k7 f h0
 have hn:=k2.nm
 have ht:=k2.top
 have h0':=h0
 rw[k5]at h0'
 obtain⟨hO,hQ⟩:=JI h0'
 have hR:R f≠0:=by rw[←hQ];exact h0'
 have hQR:Q f=R f:=(k5 f).trans hQ
 have hE:jC X.P R (f:Int)=0:=by
  unfold jC;rw[k4,UY T hf hR,if_pos rfl,nD,if_neg (by omega)]
 have hS:nE X.P R (f:Int)=upd R f (R f+1):=by unfold nE;rw[if_pos hE,Int.toNat_natCast]
 refine(Uq hE hS k1.own.st (by unfold I64;omega)).mono fun e w' ⟨he,hm⟩=>⟨he,?_⟩
 have ht:=k1.move hm k1.wd
 have hxn:∀g,(O g).isSome=true→g≠f:=fun g hg e=>by rw[e,hO]at hg;cases hg
 refine⟨⟨⟨L,_,S,O,T,ht.st,k2.other k2.len (fun g hg=>aF _ _ _ _ (hxn g hg)) (fun _ _ _ _=>rfl),?_,k4,fun g=>?_,fun g q hg hq h2=>?_,fun g h2=>?_,k8⟩,h.hn⟩,ht.only⟩
 ·unfold dz;rw[qz _ _ _ _ hR (by omega)]
 ·rw[Mw hO,hQR]
  unfold upd
  split
  ·rfl
  ·exact k5 g
 ·by_cases e:g=f
  ·subst e;exact k6 g q hg hq h0
  ·rw[aF _ _ _ _ e]at h2;exact k6 g q hg hq h2
 ·by_cases e:g=f
  ·subst e;exact hf
  ·rw[aF _ _ _ _ e]at h2;exact k7 g h2
theorem bM.free(h:bM W0 w tb sb X n lo hi c W Q V)(f:Nat)(h0:Q f≠0):Calls Tryz.prog 143 #[.pointer (some ⟨X.pb,0,none⟩), .int .i64 (f:Int)] w fun e w'=>e= .returned (.int .i64 0)∧mH W0 w w' tb sb X n lo hi (if Q f=1 then c+1 else c) W (upd Q f (Q f-1)) V:=by
 obtain⟨L,R,S,O,T,k1,k2,rfl,k4,k5,k6,k7,k8⟩:=h.ex
 have hf:=k7 f h0
 have hn:=k2.nm
 have ht:=k2.top
 have h0':=h0
 rw[k5]at h0'
 obtain⟨hO,hQ⟩:=JI h0'
 have hR:R f≠0:=by rw[←hQ];exact h0'
 have hQR:Q f=R f:=(k5 f).trans hQ
 have hE:eH X.P R (f:Int)=0:=by rw[k4,UY T hf hR]
 have hS:l6 X.P R (f:Int)=upd R f (R f-1):=by rw[k4,UZ T hf hR]
 refine(Nz hE hS k1.own.st (by unfold I64;omega)).mono fun e w' ⟨he,hm⟩=>⟨he,?_⟩
 have ht:=k1.move hm k1.wd
 have hxn:∀g,(O g).isSome=true→g≠f:=fun g hg e=>by rw[e,hO]at hg;cases hg
 refine⟨⟨⟨L,_,S,O,T,ht.st,k2.other k2.len (fun g hg=>aF _ _ _ _ (hxn g hg)) (fun _ _ _ _=>rfl),?_,k4,fun g=>?_,fun g q hg hq h2=>?_,fun g h2=>?_,k8⟩,h.hn⟩,ht.only⟩
 ·rw[hQR]
  by_cases e1:R f=1
  ·rw[if_pos e1,e1];exact Bv hf hR
  ·rw[if_neg e1];unfold dz;rw[qz _ _ _ _ hR (by omega)]
 ·rw[Mw hO,hQR]
  unfold upd
  split
  ·rfl
  ·exact k5 g
 ·by_cases e:g=f
  ·subst e;exact k6 g q hg hq h0
  ·rw[aF _ _ _ _ e]at h2;exact k6 g q hg hq h2
 ·by_cases e:g=f
  ·subst e;exact hf
  ·rw[aF _ _ _ _ e]at h2;exact k7 g h2
theorem bM.puts{L L':List Int}{R:Nat→Nat}{S:Nat→Bool}{O:Own}{T:List (Nat×Nat)}{w':World}{V':Nat→Nat→Int}(hn:X.n=n)(k1:Mg W0 w tb sb X L R S)(k2:bQ n lo hi L R S W O)(hP:X.P=dD lo hi T)(hQ:∀f,Q f=QF R O f)(hr:∀f,Q f≠0→lo≤f∧f<hi)(hp:Puts w w' X.mp X.fb X.n L')(hl:L'.length=n*32)(hw:Words L')(hO:∀f q,(O f).isSome=true→q<32→L'.getD (f*32+q) 0=L.getD (f*32+q) 0)(hV:∀f q,f<n→q<32→Q f≠0→V' f q=L'.getD (f*32+q) 0)(hkw:∀f q,f<n→q<32→hi≤f→L'.getD (f*32+q) 0=X.kw f q):mH W0 w w' tb sb X n lo hi (dz lo hi R) W Q V':=by
 have hm:Moves w w' X L' R:=⟨(k1.own.st.toG.aaR hp).Mk k1.own.st.fit (fun _ _=>rfl),Only.grown hp.grown (Or.inl rfl)⟩
 have ht:=k1.move hm hw
 exact⟨⟨⟨L',R,S,O,T,ht.st,k2.other hl (fun _ _=>rfl) hO,rfl,hP,hQ,hV,hr,hkw⟩,hn⟩,ht.only⟩
def vg(V:Nat→Nat→Int)(f q:Nat)(v:Int):Nat→Nat→Int:=fun g j=>if g=f∧j=q then v else V g j
theorem bM.write(h:bM W0 w tb sb X n lo hi c W Q V)(f q:Nat)(v:Int)(h0:Q f≠0)(hq:q<32)(hv:0≤v∧v<4294967296):Calls Tryz.prog 87 #[.pointer (some ⟨X.mp,0,none⟩), .int .i64 (f:Int), .int .i64 (q:Int), .int .u32 v] w fun e w'=>e= .returned (.int .i64 0)∧mH W0 w w' tb sb X n lo hi c W Q (vg V f q v):=by
 obtain⟨L,R,S,O,T,k1,k2,rfl,k4,k5,k6,k7,k8⟩:=h.ex
 have hf:=k7 f h0
 have hn:=k2.nm
 have hO:O f=none:=(JI (by rw[←k5];exact h0)).1
 refine(Aa X.mp X.fb X.n f q L v w k1.own.st.mem (by rw[h.hn];omega) hq).mono fun e w' ⟨he,hp⟩=>⟨he,?_⟩
 refine bM.puts h.hn k1 k2 k4 k5 k7 hp (by rw[List.length_set];exact k2.len) (Eu k1.wd _ _ (by rw[k2.len];omega) hv) (fun g j hg hj=>?_) (fun g j hg hj h2=>?_) (fun g j hg hj h2=>by rw[lu _ _ _ _ (by rw[k2.len];omega),if_neg (by omega),k8 g j hg hj h2])
 ·have:g≠f:=fun e=>by rw[e,hO]at hg;cases hg
  rw[lu _ _ _ _ (by rw[k2.len];omega),if_neg (by omega)]
 ·rw[lu _ _ _ _ (by rw[k2.len];omega)]
  unfold vg
  by_cases e:g=f∧j=q
  ·rw[if_pos e,if_pos (by omega)]
  ·rw[if_neg e,if_neg (by omega),k6 g j hg hj h2]
def copyV(V:Nat→Nat→Int)(x f:Nat):Nat→Nat→Int:=fun g j=>if g=x then V f j else V g j
theorem EF(L:List Int)(f j:Nat)(hj:j<32):(rowOf L f).getD j 0=L.getD (f*32+j) 0:=by
 simp only[rowOf,List.getD_eq_getElem?_getD,List.getElem?_take,if_pos hj,List.getElem?_drop]
theorem EG(L K:List Int)(f i:Nat)(hK:K.length=32)(hf:f*32+32≤L.length):(putRow L f K).getD i 0=if f*32≤i∧i<f*32+32 then K.getD (i-f*32) 0 else L.getD i 0:=by
 have hl:(L.take (f*32)).length=f*32:=by rw[List.length_take];omega
 simp only[putRow,List.getD_eq_getElem?_getD]
 by_cases h1:i<f*32
 ·rw[List.append_assoc,List.getElem?_append_left (by rw[hl];exact h1),List.getElem?_take,if_pos h1,if_neg (by omega)]
 ·by_cases h2:i<f*32+32
  ·rw[List.append_assoc,List.getElem?_append_right (by rw[hl];omega),hl,List.getElem?_append_left (by rw[hK];omega),if_pos ⟨by omega,h2⟩]
  ·rw[List.append_assoc,List.getElem?_append_right (by rw[hl];omega),hl,List.getElem?_append_right (by rw[hK];omega),if_neg (by omega),List.getElem?_drop,hK,show f*32+32+(i-f*32-32)=i by omega]
theorem bM.copy(h:bM W0 w tb sb X n lo hi c W Q V)(x f:Nat)(h0:Q f≠0)(h1:Q x≠0):Calls Tryz.prog 238 #[.pointer (some ⟨X.mp,0,none⟩), .int .i64 (x:Int), .int .i64 (f:Int)] w fun e w'=>e= .returned (.int .i64 0)∧mH W0 w w' tb sb X n lo hi c W Q (copyV V x f):=by
 obtain⟨L,R,S,O,T,k1,k2,rfl,k4,k5,k6,k7,k8⟩:=h.ex
 have hf:=k7 f h0
 have hx:=k7 x h1
 have hn:=k2.nm
 have hO:O x=none:=(JI (by rw[←k5];exact h1)).1
 have hK:(rowOf L f).length=32:=dU k2.len (by omega)
 have hG:∀g j,g<n→j<32→(putRow L x (rowOf L f)).getD (g*32+j) 0=if g=x then L.getD (f*32+j) 0 else L.getD (g*32+j) 0:=fun g j hg hj=>by
  rw[EG _ _ _ _ hK (by rw[k2.len];omega)]
  by_cases e:g=x
  ·subst e;rw[if_pos ⟨by omega,by omega⟩,if_pos rfl,show g*32+j-g*32=j by omega,EF _ _ _ hj]
  ·rw[if_neg (by omega),if_neg e]
 have hG2:∀i,(putRow L x (rowOf L f)).getD i 0=if x*32≤i∧i<x*32+32 then L.getD (f*32+(i-x*32)) 0 else L.getD i 0:=fun i=>by
  rw[EG _ _ _ _ hK (by rw[k2.len];omega)]
  split
  ·rw[EF _ _ _ (by omega)]
  ·rfl
 refine(WV X.mp X.fb X.n f x L w k1.own.st.mem (by rw[h.hn];omega) (by rw[h.hn];omega)).mono fun e w' ⟨he,hp⟩=>⟨he,?_⟩
 refine bM.puts h.hn k1 k2 k4 k5 k7 hp (gK k2.len (by omega) hK) (fun i=>?_) (fun g j hg hj=>?_) (fun g j hg hj h2=>?_) (fun g j hg hj h2=>by rw[hG g j hg hj,if_neg (by omega),k8 g j hg hj h2])
 ·rw[hG2]
  split
  ·exact k1.wd _
  ·exact k1.wd _
 ·have h3:g≠x:=fun e=>by rw[e,hO]at hg;cases hg
  have:=(k2.low g hg).2
  rw[hG g j (by omega) hj,if_neg h3]
 ·rw[hG g j hg hj]
  unfold copyV
  by_cases e:g=x
  ·rw[if_pos e,if_pos e,k6 f j (by omega) hj h0]
  ·rw[if_neg e,if_neg e,k6 g j hg hj h2]
end
end Go.Proofs.YtammlljefhakmaaGreatDoor
