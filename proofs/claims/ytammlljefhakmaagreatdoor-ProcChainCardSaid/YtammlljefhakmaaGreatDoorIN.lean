/- Helps of the proof. No condition. -/
import Derived.Test.YtammlljefhakmaaGreatDoorIM
import Derived.Deep.Slices
namespace Go.Proofs.YtammlljefhakmaaGreatDoor
open Go.RowKit Go.Maps
set_option maxRecDepth 100000
section
theorem YA(q:Nat)(h:1≤q):OkQ (q+5) [(1,(q:Int))]:=by
 refine⟨by simp,fun i hi=>?_⟩
 have hi:i<1:=hi
 obtain rfl:i=0:=by omega
 exact⟨(uy _ _ _).2 (by simp[List.getD_eq_getElem?_getD];omega),fun j hj=>by simp[xZ]at hj⟩
abbrev D18:Int→Option Sp:=aV (fun _=>none) 1 (some qP)
abbrev G18(s:Pc):Int→Option Pc:=dn (fun _=>none) 1 s
abbrev YB:List Nd:=[(1,0,1,0)]
theorem ae0{n q:Nat}(hn:n≤1024)(h1:1≤q)(hq:q≤65536)(s:Pc):J n q (q-1) D18 (fun _=>0) [(1,0,(q:Int),1)] ig (PG (G18 s)):=by
 have hce:aX [(1,0,(q:Int),0)] 1 ((1:Nat):Int)=0:=fK.2 ⟨bN.2 (by omega),⟨_,rfl⟩,by rw[zf];omega⟩
 have hj:=(J.start (n:=n) hn hq).nE hce
 rw[uO]at hj
 have hj2:=hj.open_ (i:=1) rfl (by decide) (by rw[dQ];omega)
 rw[jY,show single 1 (1-1)=ig from jX 1]at hj2
 rw[show aF [(1,0,(q:Int),0)] 1 ((1:Nat):Int)=[(1,0,(q:Int),1)]from zY h1]at hj2
 refine hj2.pages fun j F p hj3 hp hF=>?_
 rcases fE hj3 with⟨rfl,rfl⟩|⟨hne,hj3⟩
 ·cases hF
 ·cases hj3
theorem jN.first{n:Int}(hg:aL n YB)(q:Int)(s:Pc):jN n YB [1] [(1,0,q,1)] (G18 s):=by
 have hst:∀i,eT YB i=if i=1 then 1 else 0:=fun i=>by
  unfold eT aD
  by_cases e:(1:Int)=i
  ·rw[if_pos e,if_pos e.symm]
  ·rw[if_neg e,if_neg (fun h=>e h.symm)];rfl
 have hl:∀i,dh YB i↔i=1:=fun i=>by
  unfold dh
  rw[hst]
  by_cases e:i=1
  ·rw[if_pos e];simp[e]
  ·rw[if_neg e];simp[e]
 refine⟨hg,?_,fun i=>?_,fun i=>?_,fun i=>?_⟩
 ·have hx1:∀x:Nd,x∈YB→x=(1,0,1,0):=fun x hx=>List.mem_singleton.1 hx
  refine⟨⟨_,rfl,rfl,by decide⟩,fun x hx h2=>?_,fun x hx h3=>?_,fun x hx _=>?_,⟨fun _=>0,rfl,fun x hx hne=>?_⟩⟩
  ·rw[hx1 x hx]at h2;exact absurd h2 (by decide)
  ·rw[hx1 x hx]at h3;exact absurd h3 (by decide)
  ·rw[hx1 x hx]
  ·rw[hx1 x hx]at hne;exact absurd rfl hne
 ·rw[hst,List.mem_singleton]
  by_cases e:i=1
  ·rw[if_pos e];simp[e]
  ·rw[if_neg e];simp[e]
 ·rw[hl,GQ];simp
 ·rw[hl]
  unfold aD
  by_cases e:(1:Int)=i
  ·rw[if_pos e];simp[e]
  ·rw[if_neg e];simp[aD];exact fun h=>e h.symm
def YC(W:World)(q:Nat)(sl:Int)(e:Ending)(w':World):Prop:=∃(J:mE) (s:Pc),e= .returned (.tuple #[.pointer (some ⟨J.I.X.pb,0,none⟩), .pointer (some ⟨J.ps,0,none⟩), .bool true])∧s.ar=[]∧J.n=sl∧dY W w' J q (q-1) D18 YB [1] [(1,0,(q:Int),1)] (G18 s) (fun _ _=>0)
set_option maxHeartbeats 4000000 in
theorem made18_ok(q:Nat)(sl:Int)(W:World)(h1:1≤q)(h2:q≤60)(hs:1≤sl∧sl≤8)(hT:jm W)(hW:aM W):Calls Tryz.prog 29 #[.agg #[.int .i64 (q:Int), .int .i64 sl]] W (YC W q sl):=by
 have HT:=Lib.hid hT
 have HW:=Lib.hid hW
 have HS:=Lib.hid hs
 have b0: -9223372036854775808≤(q:Int)+5:=by omega
 have b1:(q:Int)+5≤9223372036854775807:=by omega
 have b2: -9223372036854775808≤(q:Int)+1:=by omega
 have b3:(q:Int)+1≤9223372036854775807:=by omega
 have B1:=Lib.hid (Below.alloc (Below.refl W.heap.size W) (Nat.le_refl _) (pcO (q:Int) sl))
 have X1:=Lib.hid (heap_alloc_new W (pcO (q:Int) sl))
 clear hT hW hs
 go_enter Tryz.func29,Tryz.ntmps29
 go_wp2_with fail
 rw[show(q:Int)+5=((q+5:Nat):Int) by omega]
 refine(UW (q+5) _ (by omega) (by omega)).mono ?_
 rintro e w1 hp
 obtain⟨mp,fb,rfl,hm,Oj,hn1,hn2⟩:∃mp fb,e= .returned (.tuple #[.pointer (some ⟨mp,0,none⟩), .int .i64 0])∧bT w1 mp fb (q+5) (List.replicate ((q+5)*32) 0)∧Below (W.alloc (pcO (q:Int) sl)).heap.size (W.alloc (pcO (q:Int) sl)) w1∧(W.alloc (pcO (q:Int) sl)).heap.size≤mp∧(W.alloc (pcO (q:Int) sl)).heap.size≤fb:=by
  obtain⟨mp,fb,he,hm,h1,h2,hb⟩:=hp
  exact⟨mp,fb,he,hm,hb,h1,h2⟩
 have M1:Hid (xV W w1 mp fb (q+5) (List.replicate ((q+5)*32) 0)):=Lib.hid ⟨hm,B1.out.trans (Oj.mono B1.out.size),Nat.le_trans B1.out.size hn1,Nat.le_trans B1.out.size hn2⟩
 have X2:=Lib.hid (below_block Oj X1.out)
 have B2:=Lib.hid (B1.out.trans (Oj.mono B1.out.size))
 have q0:w1.cell? ⟨W.heap.size,0,none⟩=some (.int .i64 (q:Int)):=by rw[cell_of_row w1 _ 0 _ _ _ X2.out];rfl
 clear hp hm Oj hn1 hn2
 go_wp2_with fail
 have M2:=Lib.hid (M1.out.step ((Below.refl _ _).alloc (Nat.le_refl _) (DY 1 (q:Int))))
 have X3:=Lib.hid (below_block ((Below.refl _ _).alloc (Nat.le_refl _) (DY 1 (q:Int))) X2.out)
 have B3:=Lib.hid (B2.out.trans (((Below.refl w1.heap.size w1).alloc (Nat.le_refl _) (DY 1 (q:Int))).mono B2.out.size))
 refine(zI mp fb (q+5) _ [(1,(q:Int))] _ _ M2.out.st (Fx (heap_alloc_new w1 _))).mono ?_
 rintro e w2 hp
 have hb2:Below (w1.alloc (DY 1 (q:Int))).heap.size (w1.alloc (DY 1 (q:Int))) w2:=by
  rcases hp with⟨_,_,hb⟩|⟨_,X,he,hp,h1,h2,h3,h4,h5,hb⟩
  ·exact hb
  ·exact hb
 obtain⟨X,rfl,ho,hmp,_,hn,hP,_⟩:=bX.af5 M2.out HT.out hp (YA q h1)
 have O:=Lib.hid ho
 have HP:Hid (X.P=cu 1 (q+1) []):=Lib.hid (by rw[hP];simp[xZ])
 have HN:=Lib.hid hn
 have HM:=Lib.hid hmp
 have X4:=Lib.hid (below_block hb2 X3.out)
 clear hp ho hP hn hmp hb2 q0
 have q0:w2.cell? ⟨W.heap.size,0,none⟩=some (.int .i64 (q:Int)):=by rw[cell_of_row w2 _ 0 _ _ _ X4.out];rfl
 have q1:w2.cell? ⟨W.heap.size,1,none⟩=some (.int .i64 sl):=by rw[cell_of_row w2 _ 1 _ _ _ X4.out];rfl
 have NP:=Lib.hid (QI (lo:=1) (hi:=q+1) (q:=q) (tr:=q+1) (Tp:=[]) O.out HW.out ⟨by omega,by omega⟩ (by omega) HN.out HP.out ⟨h1,by omega⟩ (by omega) ⟨by omega,by omega⟩ HS.out)
 rw[HM.out,show((q+1:Nat):Int)=(q:Int)+1 by omega]at NP
 go_wp2_with fail
 refine NP.out.mono ?_
 rintro e w3 ⟨J,s,rfl,hs,hJn,hpb,_,_,⟨hn,_,_⟩,hp,hx⟩
 have P3:Hid (dY W w3 J q (q-1) D18 YB [1] [(1,0,(q:Int),1)] (G18 s) (fun _ _=>0)):=Lib.hid (by
  have hp:=hp
  rw[show q+1-1-1=q-1 by omega]at hp
  exact⟨hp.full (by rw[hn];exact ae0 (by omega) h1 (by omega) s),by rw[hJn];exact jN.first (by rw[←hJn];exact hp.good) _ s,hx⟩)
 have HJ:=Lib.hid (And.intro hJn (And.intro hpb hs))
 clear hs hJn hpb hn hp hx q0 q1
 go_wp2_with fail
 exact bodyPost_ret (v:= .tuple #[.pointer (some ⟨X.pb,0,none⟩), .pointer (some ⟨J.ps,0,none⟩), .bool true]) (by simp[results,Tryz.results29,go_sem]) rfl ⟨J,s,by rw[HJ.out.2.1],HJ.out.2.2,HJ.out.1,P3.out⟩
end
section
def AnyP(W0 w:World)(J:mE)(q:Nat):Prop:=∃c D T Qu Lb G rg,dY W0 w J q c D T Qu Lb G rg
section
variable {W0 w:World} {J:mE} {q c:Nat} {D:Int→Option Sp} {T:List Nd} {Qu:List Int} {Lb:List Nd} {G:Int→Option Pc} {rg:Int→Nat→Int}
end
end
section
abbrev Jh(d p n x y:Int)(b:Bool)(va a:Int):Array Value:=#[.int .i64 d, .int .i64 p, .int .i64 n, .int .i64 x, .int .i64 y, .bool b, .int .u32 va, .int .u32 a]
def ag2(d p n x y va a:Int):Prop:=I64 d∧I64 p∧I64 n∧I64 x∧I64 y∧(0≤va∧va<4294967296)∧0≤a∧a<4294967296
section
variable {W0 w:World} {J:mE} {q c:Nat} {D:Int→Option Sp} {T:List Nd} {Qu:List Int} {Lb:List Nd} {G:Int→Option Pc} {rg:Int→Nat→Int}
end
end
section
theorem ag9:dF 3 YB [(1,0,20,1)] 1 6 1=0:=by decide
theorem abV:(aZ [(1,0,20,1)] 1:Int)=1:=by decide
theorem YE:aG 1 YB=2:=by decide
theorem aga:jd 3 YB 1=[(1,0,1,0),(2,1,1,0)]:=by decide
theorem agb:aF (dx [(1,0,20,1)] 2 1 6) 2 1=[(1,0,20,1),(2,1,6,1)]:=by decide
theorem agc:dF 3 [(1,0,1,0),(2,1,1,0)] [(1,0,20,1),(2,1,6,1)] 1 14 1=3:=by decide
theorem agd:(aZ [(1,0,20,1),(2,1,6,1)] 1:Int)=1:=by decide
theorem agf:aS [(1,0,20,1),(2,1,6,1)] 1=13:=by decide
theorem agh:fV [(1,0,1,0),(2,1,1,0)] 1=0:=by decide
theorem agi:fZ 3 [(1,0,1,0),(2,1,1,0)] 1=[(1,0,2,0),(2,1,1,0)]:=by decide
theorem agj:iZ 3 [(1,0,1,0),(2,1,1,0)] 1=[]:=by decide
theorem agk:eY [(1,0,2,0),(2,1,1,0)] 2=0:=by decide
theorem agl:iA 3 [(1,0,2,0),(2,1,1,0)] 2 7=[(1,0,1,0)]:=by decide
theorem agm:jR 3 [(1,0,2,0),(2,1,1,0)] 2 7=[(1,2,7)]:=by decide
theorem agn:fq (qZ 2 [(1,0,20,1),(2,1,6,1)]) 2=[(1,0,20,1)]:=by decide
theorem agp:aS [(1,0,20,1)] 1=19:=by decide
theorem agq(rg:Int→Nat→Int):zX [(1,0,1,0)] (rX rg [(1,2,7)]) 1=[0,2,7,rg 1 3,rg 1 4,rg 1 5,rg 1 6,rg 1 7]:=by
 have h0:fA [(1,0,1,0)] 1 true=0:=by decide
 unfold zX
 rw[if_pos h0]
 show Je (yV rg 1 (Uj (1,2,7) (Je rg 1))) 1= _
 rw[aaY _ _ (by rfl)]
 rfl
theorem agr:fA [(1,0,1,0)] 1 true=0:=by decide
theorem ai2:eY [(1,0,1,0)] 1=8:=by decide
section
set_option maxHeartbeats 8000000 in
theorem awake18(W:World)(hT:jm W)(hW:aM W):Calls Tryz.prog 27 #[] W fun e w'=>e= .returned (.bool true)∧Below W.heap.size W w':=by
 have hz2:=Gw
 have MD:Hid (Calls Tryz.prog 29 #[.agg #[.int .i64 20, .int .i64 3]] W (YC W 20 3)):=Lib.hid (made18_ok 20 3 W (by decide) (by decide) (by decide) hT hW)
 clear hT hW
 go_enter Tryz.func27,Tryz.ntmps27
 go_wp2_with fail
 refine MD.out.mono ?_
 rintro e w1 ⟨J,s,rfl,_,hJ,hp⟩
 have P1:=Lib.hid hp
 have HJ:=Lib.hid hJ
 clear hp hJ MD
 go_wp2_with fail
 have F1:=Lib.hid (P1.out.fork (p:=1) (quota:=6) (by decide))
 rw[HJ.out,show(((20:Nat):Int))=20 from rfl,abV,ag9,show tY 0 YB=2 by rw[yY rfl,YE]]at F1
 refine F1.out.mono ?_
 rintro e w2 ⟨rfl,_,hp⟩
 have P2:Hid (∃c D G rg,dY W w2 J 20 c D [(1,0,1,0),(2,1,1,0)] [1,2] [(1,0,20,1),(2,1,6,1)] G rg):=Lib.hid (by
  obtain⟨h0,_⟩|⟨_,c',D',G',dO,kS,hp,_,hL,_⟩:=hp
  ·exact absurd rfl h0
  ·rw[aga,YE]at hp
   rw[YE,abV,agb]at hL
   subst hL
   exact⟨c',D',G',kS,hp⟩)
 clear hp F1
 obtain⟨c2,D2,G2,rg2,hp⟩:=P2.out
 have P2:=Lib.hid hp
 clear hp
 go_wp2_with fail
 have F2:=Lib.hid (P2.out.fork (p:=1) (quota:=14) (by decide))
 rw[HJ.out,agd,agc,show ∀T,tY 3 T=0 from fun T=>DC (by decide)]at F2
 refine F2.out.mono ?_
 rintro e w3 ⟨rfl,_,hp⟩
 have P3:Hid (dY W w3 J 20 c2 D2 [(1,0,1,0),(2,1,1,0)] [1,2] [(1,0,20,1),(2,1,6,1)] G2 rg2):=Lib.hid (by
  obtain⟨_,h⟩|⟨h0,_⟩:=hp
  ·exact h
  ·exact absurd h0 (by decide))
 clear hp F2
 go_wp2_with fail
 refine(P3.out.left 1 (d:=13) agf).mono ?_
 rintro e w4 ⟨rfl,hb⟩
 have P4:=Lib.hid (P3.out.step hb)
 clear hb
 go_wp2_with fail
 have WT:=Lib.hid (P4.out.wait (p:=1) (by decide))
 rw[HJ.out,agh,agi,agj]at WT
 refine WT.out.mono ?_
 rintro e w5 ⟨rfl,_,hp⟩
 have P5:Hid (dY W w5 J 20 c2 D2 [(1,0,2,0),(2,1,1,0)] (wtQ J [(1,0,1,0),(2,1,1,0)] [1,2] 1) [(1,0,20,1),(2,1,6,1)] G2 (rX rg2 [])):=Lib.hid (by
  obtain⟨h0,_⟩|⟨_,h⟩:=hp
  ·exact absurd rfl h0
  ·exact h)
 clear hp WT
 generalize wtQ J [(1,0,1,0),(2,1,1,0)] [1,2] 1=Q5 at P5
 generalize rX rg2 []=rg5 at P5
 go_wp2_with fail
 have EX:=Lib.hid (P5.out.exit (p:=2) (a:=7) (by decide) (by decide))
 rw[HJ.out,agk,agl]at EX
 refine EX.out.mono ?_
 rintro e w6 ⟨rfl,_,hp⟩
 have P6:Hid (∃c D Qu G,dY W w6 J 20 c D [(1,0,1,0)] Qu [(1,0,20,1)] G (rX rg5 [(1,2,7)])):=Lib.hid (by
  obtain⟨h0,_⟩|⟨_,c',D',DX,dO,G',kS,hp,hr⟩:=hp
  ·exact absurd rfl h0
  ·have hl:=hr.l
   have hg:=hr.r
   rw[agn]at hl
   rw[HJ.out,agm]at hg
   subst hl hg
   exact⟨c',D',DX,G',hp⟩)
 clear hp EX
 obtain⟨c6,D6,Q6,G6,hp⟩:=P6.out
 have P6:=Lib.hid hp
 clear hp
 have RG:=Lib.hid (P6.out.regs (p:=1) (by decide))
 rw[agq,agr]at RG
 generalize rg5 1 3=x3 at RG
 generalize rg5 1 4=x4 at RG
 generalize rg5 1 5=x5 at RG
 generalize rg5 1 6=x6 at RG
 generalize rg5 1 7=x7 at RG
 go_wp2_with fail
 refine RG.out.mono ?_
 rintro e w7 ⟨rfl,hb⟩
 have P7:=Lib.hid (P6.out.step hb)
 clear hb
 have Z7:=Lib.hid (heap_alloc_new w7 (vX z8))
 have B8:=Lib.hid (below_setRow ((Below.refl w7.heap.size w7).alloc (Nat.le_refl _) (vX z8)) (Nat.le_refl _) (ah [0,2,7,x3,x4,x5,x6,x7]))
 have Y8:Hid (((w7.alloc (vX z8)).setRow w7.heap.size (ah [0,2,7,x3,x4,x5,x6,x7])).heap[w7.heap.size]? =some (vX [0,2,7,x3,x4,x5,x6,x7])):=Lib.hid (setRow_heap _ _ _ _ _ _ Z7.out)
 have P8:=Lib.hid (P7.out.step B8.out)
 have r1:((w7.alloc (vX z8)).setRow w7.heap.size (ah [0,2,7,x3,x4,x5,x6,x7])).cell? ⟨w7.heap.size,1,none⟩=some (.int .u32 2):=q8 Y8.out rfl 1 (by decide)
 have r2:((w7.alloc (vX z8)).setRow w7.heap.size (ah [0,2,7,x3,x4,x5,x6,x7])).cell? ⟨w7.heap.size,2,none⟩=some (.int .u32 7):=q8 Y8.out rfl 2 (by decide)
 go_wp2_with(refine aH vW rfl (.tmp 11) (.tmp 40) rfl w7.heap.size (ah [0,2,7,x3,x4,x5,x6,x7]) rfl rfl _ Z7.out rfl rfl (fJ _) ?_)
 refine(P8.out.left 1 (d:=19) agp).mono ?_
 rintro e w9 ⟨rfl,hb⟩
 have P9:=Lib.hid (P8.out.step hb)
 clear hb
 have EX:=Lib.hid (P9.out.exit (p:=1) (a:=0) (by decide) (by decide))
 rw[ai2]at EX
 go_wp2_with fail
 refine EX.out.mono ?_
 rintro e w10 ⟨rfl,_,hp⟩
 have P10:Hid (Below W.heap.size W w10):=Lib.hid (by
  obtain⟨_,h⟩|⟨h0,_⟩:=hp
  ·exact h.pc.below
  ·exact absurd h0 (by decide))
 clear hp
 go_wp2_with fail
 go_ret
 exact⟨rfl,P10.out⟩
end
end
section
theorem LaidN.awake18{W:World}(hL:LaidN W)(V:World)(hb:Below W.heap.size W V):Calls Tryz.prog 27 #[] V fun e w'=>e= .returned (.bool true)∧Below V.heap.size V w':=Go.Proofs.YtammlljefhakmaaGreatDoor.awake18 V (hL.lq.below hb) (hL.lw.below hb)
def fineB(q sl:Int):Bool:=decide (1≤q)&&(decide (q≤60)&&(decide (1≤sl)&&decide (sl≤8)))
theorem fineB_iff{q sl:Int}:fineB q sl=true↔(1≤q∧q≤60)∧1≤sl∧sl≤8:=by unfold fineB;simp;omega
theorem fine18_ok(q sl:Int)(w:World){b:Bool}(hb:fineB q sl=b):Calls Tryz.prog 28 #[.agg #[.int .i64 q, .int .i64 sl]] w fun e w'=>e= .returned (.bool b)∧Below w.heap.size w w':=by
 have B1:=Lib.hid (Below.alloc (Below.refl w.heap.size w) (Nat.le_refl _) (pcO q sl))
 subst hb
 unfold fineB
 by_cases h1:1≤q
 ·by_cases h2:q≤60
  ·by_cases h3:1≤sl
   ·by_cases h4:sl≤8
    ·rw[decide_eq_true h1,decide_eq_true h2,decide_eq_true h3,decide_eq_true h4]
     go_enter Tryz.func28,Tryz.ntmps28
     go_wp2
     go_ret
     exact⟨rfl,B1.out⟩
    ·rw[decide_eq_true h1,decide_eq_true h2,decide_eq_true h3,decide_eq_false h4]
     go_enter Tryz.func28,Tryz.ntmps28
     go_wp2
     go_ret
     exact⟨rfl,B1.out⟩
   ·rw[decide_eq_true h1,decide_eq_true h2,decide_eq_false h3]
    go_enter Tryz.func28,Tryz.ntmps28
    go_wp2
    go_ret
    exact⟨rfl,B1.out⟩
  ·rw[decide_eq_true h1,decide_eq_false h2]
   go_enter Tryz.func28,Tryz.ntmps28
   go_wp2
   go_ret
   exact⟨rfl,B1.out⟩
 ·rw[decide_eq_false h1]
  go_enter Tryz.func28,Tryz.ntmps28
  go_wp2
  go_ret
  exact⟨rfl,B1.out⟩
structure Op18 where
 d:Int
 p:Int
 n:Int
 x:Int
 y:Int
 b:Bool
 va:Int
 a:Int
instance:Inhabited Op18:=⟨⟨0,0,0,0,0,false,0,0⟩⟩
def Op18.Uv(o:Op18):Prop:=ag2 o.d o.p o.n o.x o.y o.va o.a
abbrev Op18.v(o:Op18):Array Value:=Jh o.d o.p o.n o.x o.y o.b o.va o.a
structure uT(w:World)(b o:Nat)(q:Op18):Prop where
 c0:w.cell? ⟨b,o,none⟩=some (.int .i64 q.d)
 c1:w.cell? ⟨b,o+1,none⟩=some (.int .i64 q.p)
 c2:w.cell? ⟨b,o+2,none⟩=some (.int .i64 q.n)
 c3:w.cell? ⟨b,o+3,none⟩=some (.int .i64 q.x)
 c4:w.cell? ⟨b,o+4,none⟩=some (.int .i64 q.y)
 c5:w.cell? ⟨b,o+5,none⟩=some (.bool q.b)
 c6:w.cell? ⟨b,o+6,none⟩=some (.int .u32 q.va)
 c7:w.cell? ⟨b,o+7,none⟩=some (.int .u32 q.a)
def ArgOps18(w:World)(v:Value)(S:List Op18):Prop:=∃a c,v= .slice a S.length c∧(∀x∈S,x.Uv)∧(S=[]∨∃b o,a=some ⟨b,o,none⟩∧b<w.heap.size∧∀i,i<S.length→uT w b (o+i*8) (S.getD i default))
section
variable {W0 w:World} {J:mE} {q c:Nat} {D:Int→Option Sp} {T:List Nd} {Qu:List Int} {Lb:List Nd} {G:Int→Option Pc} {rg:Int→Nat→Int}
theorem dY.below(h:dY W0 w J q c D T Qu Lb G rg):Below W0.heap.size W0 w:=h.pc.below
theorem dY.ags(h:dY W0 w J q c D T Qu Lb G rg):Calls Tryz.prog 35 #[.pointer (some ⟨J.I.X.pb,0,none⟩), .int .i64 0] w fun e w'=>e= .returned (.int .i64 (c:Int))∧Below w.heap.size w w':=h.pc.free
end
theorem left_oneU(q u:Int):aS [(1,0,q,u)] 1=q-u:=by
 rw[gK (n:=(1,0,q,u)) rfl]
 simp[bH]
end
end Go.Proofs.YtammlljefhakmaaGreatDoor
