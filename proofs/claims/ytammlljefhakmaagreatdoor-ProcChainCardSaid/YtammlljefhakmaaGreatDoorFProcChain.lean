/- The law ProcChain returns true for every input, and its arguments read behind the call as they read before. Conditions: none beyond the row's own: the masks and the library's two tables start as the text lays them, which the card ties. -/
import Derived.Test.YtammlljefhakmaaGreatDoorIP
import Derived.Test.YtammlljefhakmaaGreatDoorOP
import Derived.BigQuiet
import Derived.Test.YtammlljefhakmaaGreatDoorTie
import Derived.Test.YtammlljefhakmaaGreatDoorCards
import Derived.SevenTiedAt
namespace Go.Proofs.YtammlljefhakmaaGreatDoor
open Go.RowKit Go.Maps
set_option maxRecDepth 100000
def QJ:Nat→List Nd
 |0=>[]
 |k+1=>QJ k++[((k:Int)+1,(k:Int),1,0)]
theorem QK:∀k,(QJ k).length=k
 |0=>rfl
 |k+1=>by rw[QJ,List.length_append,QK k];rfl
theorem GZ{k:Nat}(h1:1≤k)(h8:k≤8):aG 1 (QJ k)=(k:Int)+1∧jF ((k:Int)+1,(k:Int),1,0) (QJ k)=QJ (k+1)∧eT (QJ k) (k:Int)=1∧∃x,aD (k:Int) (QJ k)=some x:=by
 rcases(show k=1∨k=2∨k=3∨k=4∨k=5∨k=6∨k=7∨k=8 by omega)with rfl|rfl|rfl|rfl|rfl|rfl|rfl|rfl
 all_goals exact⟨by decide,by decide,by decide,⟨_,rfl⟩⟩
theorem YI{n:Int}{k:Nat}(h1:1≤k)(h8:k<8)(hn:(k:Int)<n){Lb:List Nd}{quota:Int}(hq:1≤quota∧quota≤256)(hl:quota≤aS Lb (k:Int)):dF n (QJ k) Lb (k:Int) quota 1=0∧jd n (QJ k) (k:Int)=QJ (k+1):=by
 obtain⟨f1,f2,f3,x,f4⟩:=GZ h1 (by omega)
 have ea:l6 n (QJ k) (k:Int)=0:=by rw[Yp f3,QK,if_neg (by omega)]
 have eq:mO quota=true:=by unfold mO;simp;omega
 have ef:fA (QJ k) (k:Int) (mO quota)=0:=by unfold fA;rw[eq,if_pos rfl,f4]
 refine⟨?_,?_⟩
 ·unfold dF
  rw[ef,if_neg (by decide),if_neg (by rw[f3];decide),if_neg (by omega),ea]
 ·unfold jd;rw[if_pos ea,f1,f2]
theorem Uz{q:Int}{L:List Nd}(h:Tree q L){id up n m:Int}(he:jc L id up n=0)(hm:0≤m∧m≤n):aS (aF (dx L id up n) id m) id=n-m:=by
 obtain⟨a1,a2,_⟩:=AU h he
 have hb:=bN.1 (jO.1 he).1.1
 have hat:aD id (dx L id up n)=some (id,up,n,0):=by rw[a1,if_pos rfl]
 have hc:aX (dx L id up n) id m=0:=fK.2 ⟨bN.2 (by omega),⟨_,hat⟩,by rw[a2];omega⟩
 unfold aF
 rw[if_pos hc]
 have e1:=a2
 rw[gK hat]at e1
 have ai6:aD id ((dx L id up n).map (gW id m))=some (id,up,n,0+m):=by rw[bC (iV _ _),hat];simp[gW]
 rw[gK ai6,yC]
 simp only at e1 ⊢
 omega
structure ChS(W0 w:World)(J:mE)(q k:Nat)(sg:Option Pc):Prop where
 ex:∃c D Qu Lb G rg,dY W0 w J q c D (QJ k) Qu Lb G rg∧aS Lb (k:Int)=(q:Int)-2*((k:Int)-1)-1∧G 1=sg
section
variable {W0 w:World} {J:mE} {q k:Nat} {sg:Option Pc}
theorem ChS.spawn(h:ChS W0 w J q k sg)(h1:1≤k)(h8:k<8)(hn:(k:Int)<J.n)(hq:20≤q∧q≤60){a:Int}(ha:0≤a∧a<4294967296):
  Calls Tryz.prog 12 #[.pointer (some ⟨J.ps,0,none⟩), .int .i64 (k:Int), .int .i64 ((q:Int)-2*(k:Int)), .int .u32 a] w fun e w'=>e= .returned (.tuple #[.int .i64 ((k:Int)+1), .int .i64 0])∧KeepP w w'∧ChS W0 w' J q (k+1) sg:=by
 obtain⟨c,D,Qu,Lb,G,rg,hp,hl,hg⟩:=h.ex
 obtain⟨eb,ea⟩:=YI h1 h8 hn (Lb:=Lb) (quota:=(q:Int)-2*(k:Int)) (by omega) (by omega)
 obtain⟨f1,_⟩:=GZ h1 (by omega)
 refine(hp.spawn (quota:=(q:Int)-2*(k:Int)) (by unfold I64;omega) ha).mono ?_
 rintro e w' ⟨rfl,hk,⟨hne,_⟩|⟨_,c',D',G',dO,kS,hs,_,hL,⟨s,hG⟩,_,_⟩⟩
 ·exact absurd eb hne
 ·rw[ea]at hs
  obtain⟨b1,b2,b3,_,b5⟩:=rz eb
  obtain⟨o1,_⟩:=hp.fit.born b2 b1 b3 b5
  refine⟨by rw[yY eb,eb,f1],hk,c',D',_,dO,G',kS,hs,?_,?_⟩
  ·rw[f1]at o1
   rw[hL,f1,show((k+1:Nat):Int)=(k:Int)+1 by omega,Uz hp.pc.tree o1 (by omega)]
   omega
  ·rw[hG,aY _ _ _ (by rw[f1];omega),hg]
theorem ChS.dead(h:ChS W0 w J q k sg){sl:Int}(hn:J.n=sl):DeS W0 w J q (fun l=>sl<l) sg:=by
 obtain⟨c,D,Qu,Lb,G,rg,hp,_,hg⟩:=h.ex
 exact⟨c,D,_,Qu,Lb,G,rg,hp,fun l hl hv=>by have:=dh.num hp.fit.good hv;omega,hg⟩
end
end Go.Proofs.YtammlljefhakmaaGreatDoor
namespace Go.Proofs.YtammlljefhakmaaGreatDoor
open Go.ChangeShapes Go.WideShapes Go.ChangeAt Go.RowKit Go.Deep Go.Joins
set_option maxRecDepth 100000
def ArgInts18(w:World)(v:Value)(L:List Int):Prop:=∃a c,v= .slice a L.length c∧(∀x∈L,I64 x)∧(L=[]∨∃b o,a=some ⟨b,o,none⟩∧b<w.heap.size∧∀i,i<L.length→w.cell? ⟨b,o+i,none⟩=some (.int .i64 (L.getD i 0)))
section
variable {H:Type} {enc:TypeId×Value→H} {W:World} {base:Nat}
theorem Mw{v:Value}{d:DataW H}{p:List MemPlace}(hv:Value.okWide Tryz.prog W .any base 54 v)
  (h:DataW.Trod enc Tryz.prog W 0 (fun _=>true) true 54 v d p)(hlt:∀x∈p,x.block<W.heap.size):∃L:List Int,ArgInts18 W v L:=by
 obtain⟨a0,len,cap,rfl⟩:=okWide_slice Tryz.underlying54 hv
 obtain⟨fuel,hf⟩:=h
 rcases open_slice Tryz.underlying54 hf with⟨hcs,_⟩|⟨a,len',cap',m,n,D,Pl,hcs,_,hl,_,hmm,hx,hi⟩
 ·simp[Value.cells]at hcs
  obtain⟨rfl,rfl,rfl⟩:=hcs
  exact⟨[],none,0,rfl,by simp,Or.inl rfl⟩
 ·simp[Value.cells]at hcs
  obtain⟨rfl,rfl,rfl⟩:=hcs
  have hm:m=cap:=by simpa using hmm
  have each:∀i,i<len→∃q:Int,I64 q∧W.cell? (a.add i)=some (.int .i64 (q:Int)):=by
   intro i hil
   obtain⟨cs',h1,h2⟩:=hi i (by omega)
   rw[uh,Nat.mul_one]at h1
   obtain⟨_,hlen,hcell⟩:=World.cells?_some h1
   match cs',hlen with
   |[v0],_=>
    have e0:=hcell 0 (by omega)
    rw[add_add]at e0
    obtain⟨n0,f0,_,w0⟩:=DataW.trod_int Tryz.underlying3 h2
    simp at f0
    subst f0
    exact⟨n0,bounds_i64 w0,by simpa using e0⟩
  obtain⟨q,hq⟩:=choose_lt each
  have hS:((List.range len).map q).length=len:=by simp
  refine⟨(List.range len).map q,some a,cap,by rw[hS],fun x hx=>?_,?_⟩
  ·simp only[List.mem_map,List.mem_range]at hx
   obtain⟨i,hi',rfl⟩:=hx
   exact(hq i hi').1
  by_cases h0:len=0
  ·subst h0;exact Or.inl rfl
  ·obtain⟨b,off,spot⟩:=a
   have hspot:spot=none:=by simpa[Addr.add]using World.cell?_spot (hq 0 (by omega)).2
   subst hspot
   simp only[Prod.mk.injEq]at hx
   refine Or.inr ⟨b,off,rfl,hlt (.cell b off) (by rw[hx.2];exact List.mem_append_left _ (MemPlace.mem_row.2 ⟨0,by rw[uh];omega,by simp⟩)),fun i hil=>?_⟩
   rw[hS]at hil
   have e:((List.range len).map q).getD i 0=q i:=by simp[List.getD_eq_getElem?_getD,hil]
   rw[e]
   have:=(hq i hil).2
   simp only[add_plain]at this
   exact this
end
end Go.Proofs.YtammlljefhakmaaGreatDoor
namespace Go.Proofs.YtammlljefhakmaaGreatDoor
open Go.RowKit Go.Maps
set_option maxRecDepth 100000
theorem chain_far(q sl:Int)(a:Option Addr)(n cp:Nat)(W:World)(h:fineB q sl=false∨fineB q sl=true∧(q<20∨sl<3∨20<n))(hL:LaidN W):Calls Tryz.prog 10 #[.agg #[.int .i64 q, .int .i64 sl], .slice a n cp] W fun e w'=>e= .returned (.bool true)∧Below W.heap.size W w':=by
 have B1:=Lib.hid (Below.alloc (Below.refl W.heap.size W) (Nat.le_refl _) (pcO q sl))
 have X1:=Lib.hid (heap_alloc_new W (pcO q sl))
 have AW:=Lib.hid (fun V (hb:Below W.heap.size W V)=>hL.awake18 V hb)
 have h':∃fb d1 d2 d3,fineB q sl=fb∧decide (q<20)=d1∧decide (sl<3)=d2∧decide ((20:Int)<(n:Int))=d3∧(fb=false∨fb=true∧(d1=true∨d1=false∧(d2=true∨d2=false∧d3=true))):=by
  refine⟨_,_,_,_,rfl,rfl,rfl,rfl,h.imp id fun⟨h0,h1⟩=>⟨h0,?_⟩⟩
  by_cases e1:q<20
  ·exact Or.inl (decide_eq_true e1)
  ·refine Or.inr ⟨decide_eq_false e1,?_⟩
   by_cases e2:sl<3
   ·exact Or.inl (decide_eq_true e2)
   ·exact Or.inr ⟨decide_eq_false e2,decide_eq_true (by omega)⟩
 clear h hL
 obtain⟨fb,d1,d2,d3,hf,e1,e2,e3,hc⟩:=h'
 have FN:=Lib.hid (fun V=>fine18_ok q sl V hf)
 clear hf
 rcases hc with rfl|⟨rfl,rfl|⟨rfl,rfl|⟨rfl,rfl⟩⟩⟩
 all_goals
  go_enter Tryz.func10,Tryz.ntmps10
  go_wp2_with fail
  refine(FN.out _).mono ?_
  rintro e w2 ⟨rfl,hb⟩
  have B2:=Lib.hid (B1.out.trans (hb.mono B1.out.size))
  have X2:=Lib.hid (below_block hb X1.out)
  have q0:w2.cell? ⟨W.heap.size,0,none⟩=some (.int .i64 q):=by rw[cell_of_row w2 _ 0 _ _ _ X2.out];rfl
  have q1:w2.cell? ⟨W.heap.size,1,none⟩=some (.int .i64 sl):=by rw[cell_of_row w2 _ 1 _ _ _ X2.out];rfl
  have AW2:=Lib.hid (AW.out w2 B2.out)
  clear hb
  go_wp2_with fail
  refine AW2.out.mono ?_
  rintro e w3 ⟨rfl,hb⟩
  have B3:=Lib.hid (B2.out.trans (hb.mono B2.out.size))
  clear hb
  go_wp2_with fail
  go_ret
  exact⟨rfl,B3.out⟩
set_option maxHeartbeats 8000000 in
theorem chain_in(q sl:Nat)(v:Value)(O:List Int)(W:World)(h1:20≤q)(h60:q≤60)(hs:3≤sl∧sl≤8)(hlen:O.length≤20)(hO:ArgInts18 W v O)(hL:LaidN W):Calls Tryz.prog 10 #[.agg #[.int .i64 (q:Int), .int .i64 (sl:Int)],v] W fun e w'=>e= .returned (.bool true)∧Below W.heap.size W w':=by
 have B1:=Lib.hid (Below.alloc (Below.refl W.heap.size W) (Nat.le_refl _) (pcO (q:Int) (sl:Int)))
 have X1:=Lib.hid (heap_alloc_new W (pcO (q:Int) (sl:Int)))
 have AW:=Lib.hid (fun V (hb:Below W.heap.size W V)=>hL.awake18 V hb)
 have FN:=Lib.hid (fun V=>fine18_ok (q:Int) (sl:Int) V (fineB_iff.2 ⟨by omega,by omega⟩))
 have MD:=Lib.hid (fun V (hb:Below W.heap.size W V)=>made18_ok q (sl:Int) V (by omega) h60 (by omega) (hL.lq.below hb) (hL.lw.below hb))
 obtain⟨a,cp,rfl,hwd,hO⟩:=hO
 have WD:=Lib.hid hwd
 have HO:=Lib.hid hO
 obtain⟨n,hn⟩:∃n,n=O.length:=⟨_,rfl⟩
 have HN:=Lib.hid hn
 have d1:decide ((q:Int)<20)=false:=decide_eq_false (by omega)
 have d2:decide ((sl:Int)<3)=false:=decide_eq_false (by omega)
 have d3:decide ((20:Int)<(n:Int))=false:=decide_eq_false (by omega)
 have n20:n≤20:=by omega
 have ew:IntKind.i64.wrap ((q:Int)-1)=(q:Int)-1:=by rw[IntKind.wrap_i64];omega
 have iw0: -9223372036854775808≤(q:Int)-1:=by omega
 have iw1:(q:Int)-1≤9223372036854775807:=by omega
 have S8:=Lib.hid hs
 have sl8:sl≤8:=hs.2
 have Q60:=Lib.hid (And.intro h1 h60)
 rw[←hn]
 clear hwd hO hlen hn hL h1 h60 hs
 go_enter Tryz.func10,Tryz.ntmps10
 go_wp2_with fail
 refine(FN.out _).mono ?_
 rintro e w2 ⟨rfl,hb⟩
 have B2:=Lib.hid (B1.out.trans (hb.mono B1.out.size))
 have X2:=Lib.hid (below_block hb X1.out)
 have CQ:Hid (∀V,KeepP w2 V→V.cell? ⟨W.heap.size,0,none⟩=some (.int .i64 (q:Int))∧V.cell? ⟨W.heap.size,1,none⟩=some (.int .i64 (sl:Int))):=Lib.hid fun V hk=>by
  have:=fun i=>cell_of_row V W.heap.size i _ _ _ (hk.box X2.out (by decide))
  exact⟨this 0,this 1⟩
 obtain⟨q0,q1⟩:=CQ.out w2 (KeepP.refl _)
 clear hb
 go_wp2_with fail
 refine(MD.out w2 B2.out).mono ?_
 rintro e w3 ⟨J,s,rfl,har,hJn,hp⟩
 have P3:Hid (ChS w2 w3 J q 1 (some s)):=Lib.hid ⟨_,_,_,_,_,_,hp,by rw[show((1:Nat):Int)=1 from rfl,left_oneU];omega,putG_same _ _ _⟩
 have K3:=Lib.hid (KeepP.below hp.below)
 have AR:=Lib.hid har
 have JN:=Lib.hid hJn
 clear hp q0 q1 har hJn
 go_wp2_with fail
 go_loopw [8] (fun s0 wr=>∃j:Nat,s0= .int .i64 ((j:Int)+1)∧1≤j∧j≤sl∧ChS w2 wr J q j (some s)∧KeepP w2 wr) (fun s0 _=>(sl+1-(intOf s0).toNat))
 case atStart=>exact⟨1,rfl,by decide,by have:=S8.out;omega,P3.out,K3.out⟩
 case round=>
  obtain⟨j,rfl,hj1,hj,hp,hkp⟩:=hrel
  have P4:=Lib.hid hp
  have K4:=Lib.hid hkp
  obtain⟨q0,q1⟩:=CQ.out wr hkp
  clear hp hkp
  by_cases hlt:j<sl
  ·have e1:IntKind.i64.wrap ((j:Int)+1-1)=(j:Int):=by rw[IntKind.wrap_i64];have:=S8.out;omega
   have e2:IntKind.i64.wrap (2*(j:Int))=2*(j:Int):=by rw[IntKind.wrap_i64];have:=S8.out;omega
   have e3:IntKind.i64.wrap ((q:Int)-2*(j:Int))=(q:Int)-2*(j:Int):=by rw[IntKind.wrap_i64];have:=S8.out;have:=Q60.out;omega
   have e4:IntKind.u32.wrap ((j:Int)+1)=(j:Int)+1:=by rw[IntKind.wrap_u32];have:=S8.out;omega
   have e5:IntKind.i64.wrap ((j:Int)+1+1)=(j:Int)+1+1:=by rw[IntKind.wrap_i64];have:=S8.out;omega
   have e6:decide ((j:Int)+1≤(sl:Int))=true:=decide_eq_true (by omega)
   have SP:=Lib.hid (P4.out.spawn hj1 (by have:=S8.out;omega) (by have:=JN.out;omega) Q60.out (a:=(j:Int)+1) (by have:=S8.out;omega))
   go_wp2_with fail
   refine SP.out.mono ?_
   rintro e w5 ⟨rfl,hk,hp⟩
   have P5:=Lib.hid hp
   have K5:=Lib.hid (K4.out.trans hk)
   clear hk hp q0 q1
   go_wp2_with fail
   go_roundw
   case rel=>exact⟨j+1,by go_num,by omega,by omega,P5.out,K5.out⟩
   case measure=>simp[intOf];omega
  ·obtain rfl:j=sl:=by omega
   have e6:decide ((j:Int)+1≤(j:Int))=false:=decide_eq_false (by omega)
   have E5:=Lib.hid (P4.out.dead JN.out)
   clear P4 P3 hlt hj MD FN
   go_wp2_with fail
   clear q0 q1
   go_loopw [11] (fun s0 wq=>∃k:Nat,s0= .int .i64 (k:Int)∧k≤n∧DeS w2 wq J q (fun l=>(j:Int)<l) (some s)∧KeepP w2 wq) (fun s0 _=>(n-(intOf s0).toNat))
   case atStart=>exact⟨0,rfl,Nat.zero_le _,E5.out,K4.out⟩
   case round=>
    obtain⟨k,rfl,hk,hd,hkp⟩:=hrel
    have E6:=Lib.hid hd
    have K6:=Lib.hid hkp
    obtain⟨q0,q1⟩:=CQ.out wr hkp
    clear hd hkp
    by_cases hlt:k<n
    ·obtain⟨b,o,rfl,hb1,hb2⟩:=HO.out.resolve_left (by intro e;have:=HN.out;rw[e]at this;simp at this;omega)
     have hmem:O.getD k 0∈O:=by rw[List.getD_eq_getElem?_getD,List.getElem?_eq_getElem (by have:=HN.out;omega)];simp
     have c0:=((B2.out.trans (E6.out.below.mono B2.out.size)).cell (p:=⟨b,o+k,none⟩) hb1).trans (hb2 k (by have:=HN.out;omega))
     have EX:=Lib.hid (E6.out.exit (B:=fun l=>(j:Int)<l) (p:=O.getD k 0) (a:=0) (WD.out _ hmem) (by decide) (fun l hl=>Or.inl hl))
     generalize O.getD k 0=x at EX c0
     clear hb1 hb2 hmem
     go_wp2_with fail
     refine EX.out.mono ?_
     rintro e w6 ⟨⟨er,rfl⟩,hk',hd⟩
     have E7:=Lib.hid hd
     have K7:=Lib.hid (K6.out.trans hk')
     clear hd hk' EX c0 q0 q1
     go_wp2_with fail
     go_roundw
     case rel=>exact⟨k+1,by go_num,by omega,E7.out,K7.out⟩
     case measure=>simp[intOf];omega
    ·obtain rfl:k=n:=by omega
     clear E5 hlt hk HO
     go_wp2_with fail
     clear q0 q1
     go_loopw [12] (fun s0 wq=>∃p:Nat,s0= .int .i64 (p:Int)∧1≤p∧p≤j∧DeS w2 wq J q (fun l=>(p:Int)<l) (some s)∧KeepP w2 wq) (fun s0 _=>(intOf s0).toNat)
     case atStart=>exact⟨j,rfl,hj1,Nat.le_refl _,E6.out,K6.out⟩
     case round=>
      obtain⟨p,rfl,hp1,YP,hd,hkp⟩:=hrel
      have E8:=Lib.hid hd
      have K8:=Lib.hid hkp
      obtain⟨q0,q1⟩:=CQ.out wr hkp
      clear hd hkp
      by_cases hlt:2≤p
      ·have EX:=Lib.hid (E8.out.exit (B:=fun l=>((p-1:Nat):Int)<l) (p:=(p:Int)) (a:=0) (by have:=S8.out;unfold I64;omega) (by decide) (fun l hl=>by omega))
       have e8:decide ((2:Int)≤(p:Int))=true:=decide_eq_true (by omega)
       have e9:IntKind.i64.wrap ((p:Int)-1)=((p-1:Nat):Int):=by rw[IntKind.wrap_i64];have:=S8.out;omega
       go_wp2_with fail
       refine EX.out.mono ?_
       rintro e w6 ⟨⟨er,rfl⟩,hk',hd⟩
       have E9:=Lib.hid hd
       have K9:=Lib.hid (K8.out.trans hk')
       clear hd hk' EX e8 q0 q1
       go_wp2_with fail
       go_roundw
       case rel=>exact⟨p-1,rfl,by omega,by omega,E9.out,K9.out⟩
       case measure=>simp[intOf];omega
      ·obtain rfl:p=1:=by omega
       have A8:=Lib.hid (E8.out.alone (m:=j) (fun l h2 h8=>by omega) (by have:=JN.out;omega))
       clear E8 E6 hlt hp1 YP
       rw[show((1:Nat):Int)=1 from rfl]
       go_wp2_with fail
       clear q0 q1
       go_loopw [13] (fun s0 wq=>∃k:Nat,s0= .int .i64 (k:Int)∧k≤j∧AlS w2 wq J q (j-k) (some s)∧KeepP w2 wq) (fun s0 _=>(j-(intOf s0).toNat))
       case atStart=>exact⟨0,rfl,Nat.zero_le _,A8.out,K8.out⟩
       case round=>
        obtain⟨i,rfl,hi,ha,hkp⟩:=hrel
        have A9:=Lib.hid ha
        have K9:=Lib.hid hkp
        obtain⟨q0,q1⟩:=CQ.out wr hkp
        clear ha hkp
        by_cases hlt:i<j
        ·have WT:Hid (AlS w2 _ J q (j-(i+1)+1) (some s)):=Lib.hid (by have h:=A9.out;rwa [show j-i=j-(i+1)+1 by omega]at h)
         go_wp2_with fail
         refine WT.out.wait.mono ?_
         rintro e w8 ⟨⟨er,rfl⟩,hk',ha⟩
         have A10:=Lib.hid ha
         have K10:=Lib.hid (K9.out.trans hk')
         clear ha hk' q0 q1
         go_wp2_with fail
         go_roundw
         case rel=>exact⟨i+1,by go_num,by omega,A10.out,K10.out⟩
         case measure=>simp[intOf];omega
        ·obtain rfl:i=j:=by omega
         have LS:Hid (LaS w2 wr J q):=Lib.hid (A9.out.last (by omega) AR.out)
         have CB:Hid (∀V,Below wr.heap.size wr V→V.cell? ⟨W.heap.size,0,none⟩=some (.int .i64 (q:Int))):=Lib.hid fun V hb=>(CQ.out V (K9.out.trans (KeepP.below hb))).1
         have AL:=Lib.hid (fun V (hb:Below wr.heap.size wr V)=>(LS.out.step hb).all)
         have LF:=Lib.hid (fun V (hb:Below wr.heap.size wr V)=>(LS.out.step hb).left)
         have FR:=Lib.hid (fun V (hb:Below wr.heap.size wr V)=>(LS.out.step hb).free)
         have BR:Hid (Below W.heap.size W wr):=Lib.hid (B2.out.trans (LS.out.below.mono B2.out.size))
         have AK:=Lib.hid (fun V (hb:Below wr.heap.size wr V)=>AW.out V (BR.out.trans (hb.mono BR.out.size)))
         have c0:=CB.out wr (Below.refl _ _)
         clear A9 LS hlt hi
         go_wp2_with fail
         go_region_held3 (fun V=>V.cell? ⟨W.heap.size,0,none⟩=some (.int .i64 (q:Int))) (first
           |with_reducible exact CB.out we BE.out
           |with_reducible exact CB.out wc BC.out
           |with_reducible exact CB.out wb BB.out
           |with_reducible exact CB.out wa BA.out
           |with_reducible exact CB.out _ (Below.refl _ _).drew)
          (first
           |((go_at_call 20;with_reducible refine(AL.out _ (Below.refl _ _).drew).mono ?_);rintro e wa ⟨⟨ga,ka,rfl⟩,hb⟩;have BA:Hid (Below wr.heap.size wr wa):=Lib.hid ((Below.refl _ _).drew.trans hb);clear hb)
           |((go_at_call 22;with_reducible refine(LF.out wa BA.out).mono ?_);rintro e wb ⟨rfl,hb⟩;have BB:Hid (Below wr.heap.size wr wb):=Lib.hid (BA.out.trans (hb.mono BA.out.size));clear hb)
           |((go_at_call 35;with_reducible refine(FR.out wb BB.out).mono ?_);rintro e wc ⟨rfl,hb⟩;have BC:Hid (Below wr.heap.size wr wc):=Lib.hid (BB.out.trans (hb.mono BB.out.size));clear hb)
           |((go_at_call 27;with_reducible refine(AK.out wc BC.out).mono ?_);rintro e we ⟨rfl,hb⟩;have BE:Hid (Below wr.heap.size wr we):=Lib.hid (BC.out.trans (hb.mono BC.out.size));clear hb))
         all_goals
          go_wp2_with fail
          go_ret
          exact⟨rfl,BR.out.trans (BE.out.mono BR.out.size)⟩
theorem DL(q sl:Int)(v:Value)(O:List Int)(W:World)(_:I64 q∧I64 sl)(hO:ArgInts18 W v O)(hL:LaidN W):Calls Tryz.prog 10 #[.agg #[.int .i64 q, .int .i64 sl],v] W fun e w'=>e= .returned (.bool true)∧Below W.heap.size W w':=by
 by_cases h:fineB q sl=true∧20≤q∧3≤sl∧O.length≤20
 ·have h5:=fineB_iff.1 h.1
  obtain⟨n,rfl⟩:∃n:Nat,q=(n:Int):=⟨q.toNat,by omega⟩
  obtain⟨m,rfl⟩:∃m:Nat,sl=(m:Int):=⟨sl.toNat,by omega⟩
  exact chain_in n m v O W (by omega) (by omega) (by omega) h.2.2.2 hO hL
 ·obtain⟨a,cp,rfl,_⟩:=hO
  refine chain_far q sl a _ cp W ?_ hL
  cases hf:fineB q sl with
  |false=>exact Or.inl rfl
  |true=>
   refine Or.inr ⟨rfl,Classical.byContradiction fun h9=>h ⟨hf,by omega⟩⟩
end Go.Proofs.YtammlljefhakmaaGreatDoor
namespace Go.Proofs.YtammlljefhakmaaGreatDoor
open Go.ChangeShapes Go.WideShapes Go.ChangeAt Go.RowKit Go.Joins
set_option maxRecDepth 100000
theorem zl(os:Os)(started:os.Started)(H:Type)(enc:TypeId×Value→H):
  ReturnsInHanded {} Tryz.checked os 10 .any (fun w args=>(Rows.procChainSpec.pre enc Tryz.prog Tryz.f10 [] false w args∧laidMetH Tryz.prog jV w)∧sizedMet enc Tryz.prog Tryz.f10 (OpenSpec.ofChange Rows.procChainSpec) false w args)
   (Rows.procChainSpec.post enc Tryz.prog Tryz.f10 false true false false):=by
 refine nV Ci (tb:=4) started (by kernel_rfl) Tryz.func10 rfl rfl Tryz.underlying4 (by kernel_rfl)
  (fun ds h=>by match ds,h with|[_,_],_=>rfl)
  (ChangeSpec.witness_shaped (enc:=enc) (C:=Tryz.checked) (os:=os) (X:=fun w _=>laidMetH Tryz.prog jV w) false (World.doorLaid Tryz.prog 400 os) #[.agg #[.int .i64 0, .int .i64 0], .slice none 0 0] 8 rfl (World.shaped_of_RefB (by kernel_rfl) (by kernel_rfl)) (by kernel_rfl) (by kernel_rfl) (by kernel_rfl) (vM os _)) ?_
 intro W args ds p base hval hA hlt hL
 rw[Tryz.params10]at hA hval
 obtain⟨v0,vs0,d0,ds0,p0,q0,hargs,rfl,rfl,h0,r0⟩:=trodAll_cons hA
 obtain⟨v1,vs1,d1,ds1,p1,q1,rfl,rfl,rfl,h1,r1⟩:=trodAll_cons r0
 obtain⟨rfl,rfl,rfl⟩:=trodAll_nil r1
 obtain rfl:args=#[v0,v1]:=by cases args;simp_all
 obtain⟨x0,y0,rfl,ax0,ay0⟩:=zk (hval 0 29 v0 rfl rfl) h0
 obtain⟨S1,O1⟩:=Mw (hval 1 54 v1 rfl rfl) h1 (fun x hx=>hlt x (by simp[hx]))
 exact DL x0 y0 v1 S1 W ⟨ax0,ay0⟩ O1 hL
theorem procChain_holds:Rows.ProcChainSaid:=
 OpenClaim.holds_of_wide 10 Tryz.f10 rfl rfl rfl rfl rfl rfl rfl ⟨rfl,rfl,rfl,rfl,rfl⟩ rfl rfl rfl rfl rfl (by kernel_rfl) Tryz.func10 (by kernel_rfl)
  (of_decide_eq_true (by kernel_rfl)) (by unfold Func.isWrapper;first|(rw[if_pos (by decide+kernel)];kernel_rfl)|(rw[if_neg (by decide+kernel)];exact⟨rfl,rfl⟩))
  (fun os started H enc _=>zl os started H enc)
theorem procChain_card:Rows.ProcChainCardSaid:=
 Claim7.holds_tied_plain_at .later [] [.data, .data, .data] true Rows.procChainCard.stood.harness false
  procChain_holds (fun _ h=>by cases h) (by kernel_rfl) (fun _ h=>by cases h) procChain_row_tie rfl ⟨rfl,rfl⟩ (by kernel_rfl) rfl
  (fun f fn hf hfn=>by
   obtain rfl:f=10:=Option.some.inj ((show Tryz.prog.funcNamed "priory/priorylaw18.ProcChain" =some 10 by kernel_rfl).symm.trans hf) |>.symm
   obtain rfl:fn=Tryz.f10:=(Option.some.inj (Tryz.func10.symm.trans hfn)).symm
   exact⟨by kernel_rfl,fun j t ht=>by
    rw[Tryz.params10]at ht
    have hm:t∈[29,54]:=by simpa using Array.mem_of_getElem? ht
    have hall:([29,54].all fun u=> !Tryz.prog.wantsStandIn u)=true:=by kernel_rfl
    exact(show Tryz.prog.wantsStandIn t=false by simpa using List.all_eq_true.1 hall t hm)⟩)
  (by kernel_rfl)
end Go.Proofs.YtammlljefhakmaaGreatDoor
