/- Helps of the proof. No condition. -/
import Derived.Test.YtammlljefhakmaaGreatDoorHP
import Derived.Test.YtammlljefhakmaaGreatDoorHG
namespace Go.Proofs.YtammlljefhakmaaGreatDoor
open Go.RowKit Go.Maps
set_option maxRecDepth 100000
section
def qX(A:List Ar)(Lb:List Nd)(F:Sp)(i va:Int)(words:Nat)(wr:Bool):Int:=
 if 32768≤va then 7 else if qW A wr (uQ va words)≠0 then qW A wr (uQ va words)else aX Lb i (bW (lM F) (uQ va words):Int)
def Out(W0 w w':World)(I:lK)(q c:Nat)(D:Int→Option Sp)(Q:Nat→Nat)(V:Nat→Nat→Int)(Lb:List Nd)(G:Int→Option Pc)(i va:Int)(words:Nat)(F:Sp)(er:Int)(S:(Int→Option Sp)→(Nat→Nat→Int)→Prop):Prop:=
 ∃c' D' Q' V' dO,dR W0 w' I q c' D' Q' V' dO G ig (PG G)∧ay w w'∧(er≠0→c'=c∧D'=D∧Q'=Q∧V'=V∧dO=Lb)∧(er=0→S D' V'∧dO=aF Lb i (bW (lM F) (uQ va words):Int))
theorem aaK(va:Int):uQ va 1=[(va/32).toNat]:=by
 unfold uQ
 have h1:(va%32).toNat<32:=by omega
 rw[show((va%32).toNat+1-1)/32+1=0+1 by omega,Gq];rfl
section
variable {W0 w:World} {I:lK} {q c:Nat} {Q:Nat→Nat} {V:Nat→Nat→Int} {Lb:List Nd} {G:Int→Option Pc} {D:Int→Option Sp}
theorem jZ{i:Int}{s:Pc}(h:dR W0 w I q c D Q V Lb G ig (PG G))(hG:G i=some s):dP G i=0:=by
 obtain⟨F,hF⟩:=h.bl.TG hG
 have:=h.j.pid i F hF
 unfold dP oz
 rw[decide_eq_true this,if_pos rfl,hG]
theorem dR.find(h:dR W0 w I q c D Q V Lb G ig (PG G))(i:Int){p:Option Nat}(hp:(if dP G i=0 then(G i).map (·.blk)else none)=p){er:Int}(he:dP G i=er):
  Calls Tryz.prog 74 #[.pointer (some ⟨I.ss,0,none⟩), .int .i64 i] w fun e w'=>e= .returned (.tuple #[Aa p, .int .i64 er])∧Below w.heap.size w w':=by
 obtain⟨W,Pb,h1,_⟩:=h.bl
 exact adz h1 i hp he
set_option maxHeartbeats 2000000 in
theorem dR.XW(h:dR W0 w I q c D Q V Lb G ig (PG G))(i va x:Int)(hne:dP G i≠0):
  Calls Tryz.prog 38 #[.pointer (some ⟨I.ss,0,none⟩), .int .i64 i, .int .u32 va, .int .u32 x] w fun e w'=>e= .returned (.int .i64 (dP G i))∧Below w.heap.size w w':=by
 have HF:=Lib.hid (h.find i (p:=none) (by rw[if_neg hne]) rfl)
 have hne':(dP G i !=0)=true:=by simpa using hne
 generalize dP G i=er at*
 clear h hne
 go_enter Tryz.func38,Tryz.ntmps38
 go_wp2_with fail
 refine HF.out.mono ?_
 rintro e w1 ⟨rfl,hb⟩
 have B:=Lib.hid hb
 clear hb
 go_wp2
 go_ret
 exact⟨rfl,B.out⟩
def adK(W0 w w':World)(I:lK)(q c:Nat)(D:Int→Option Sp)(Q:Nat→Nat)(V:Nat→Nat→Int)(Lb:List Nd)(G:Int→Option Pc)(i va:Int)(words:Nat)(wr:Bool)(F:Sp)(er:Int)(e:Ending):Prop:=
 ∃f z:Nat,e= .returned (.tuple #[.int .i64 (f:Int), .int .i64 (z:Int), .int .i64 er])∧∃c' D' Q' V' dO,dR W0 w' I q c' D' Q' V' dO G ig (PG G)∧ay w w'∧(er≠0→c'=c∧D'=D∧Q'=Q∧V'=V∧dO=Lb)∧(er=0→(Seen D V D' V' i (fun r=>decide (r∈uQ va words))∧dO=aF Lb i (bW (lM F) (uQ va words):Int))∧va<32768∧z=(va%32).toNat∧∃F',D' i=some F'∧(F' (va/32).toNat).1=true∧(F' (va/32).toNat).2.2.2=(f:Int)∧(wr=true→(F' (va/32).toNat).2.1=true))
theorem dR.adL(h:dR W0 w I q c D Q V Lb G ig (PG G)){i:Int}{s:Pc}{F:Sp}(hG:G i=some s)(hD:D i=some F)(va:Int)(hva:0≤va∧va<4294967296)(words:Nat)(h1:1≤words)(h2:words≤1024)(wr:Bool){er:Int}(her:er=qX s.ar Lb F i va words wr):
  Calls Tryz.prog 75 #[.pointer (some ⟨I.ss,0,none⟩), .pointer (some ⟨s.blk,0,none⟩), .int .u32 va, .int .i64 (words:Int), .bool wr] w fun e w'=>adK W0 w w' I q c D Q V Lb G i va words wr F er e:=by
 refine(h.reach hG hD va hva words h1 h2 wr).mono ?_
 rintro e w2 (⟨hv,rfl,hb2⟩|⟨hv,hm,rfl,hb2⟩|⟨hv,hm,hc,rfl,hs,hk⟩|⟨hv,hm,hc,c',D',Q',V',F',f,rfl,hs,hk,hsn,hD',hp,hf,hw⟩)
 ·have e1:er=7:=by rw[her];unfold qX;rw[if_pos hv]
  rw[e1]
  exact⟨0,0,rfl,c,D,Q,V,Lb,h.step hb2,ay.below hb2,fun _=>⟨rfl,rfl,rfl,rfl,rfl⟩,fun e=>absurd e (by decide)⟩
 ·have e1:er=qW s.ar wr (uQ va words):=by rw[her];unfold qX;rw[if_neg (by omega),if_pos hm]
  rw[e1]
  exact⟨0,0,rfl,c,D,Q,V,Lb,h.step hb2,ay.below hb2,fun _=>⟨rfl,rfl,rfl,rfl,rfl⟩,fun e=>absurd e hm⟩
 ·have e1:er=aX Lb i (bW (lM F) (uQ va words):Int):=by rw[her];unfold qX;rw[if_neg (by omega),if_neg (by simpa using hm)]
  rw[e1]
  exact⟨0,0,rfl,c,D,Q,V,Lb,hs,hk,fun _=>⟨rfl,rfl,rfl,rfl,rfl⟩,fun e=>absurd e hc⟩
 ·have e1:er=0:=by rw[her];unfold qX;rw[if_neg (by omega),if_neg (by simpa using hm)];exact hc
  rw[e1]
  exact⟨f,(va%32).toNat,by rw[show va%32=((va%32).toNat:Int) by omega];simp,c',D',Q',V',_,hs,hk,fun e=>absurd rfl e,fun _=>⟨⟨hsn,rfl⟩,hv,rfl,F',hD',hp,hf,hw⟩⟩
structure abH(D:Int→Option Sp)(V:Nat→Nat→Int)(D':Int→Option Sp)(V':Nat→Nat→Int)(i va x:Int):Prop where
 pr:∀j r,r<1024→qz D' j r=(qz D j r||(decide (j=i)&&decide (r=(va/32).toNat)))
 rd:∀j r y,r<1024→y<32→ou D' V' j r y=if j=i∧r=(va/32).toNat∧y=(va%32).toNat then x else ou D V j r y
 dom:∀j,(D' j).isSome=(D j).isSome
set_option maxHeartbeats 4000000 in
theorem dR.store(h:dR W0 w I q c D Q V Lb G ig (PG G)){i:Int}{s:Pc}{F:Sp}(hG:G i=some s)(hD:D i=some F)(va x:Int)(hva:0≤va∧va<4294967296)(hx:0≤x∧x<4294967296):
  Calls Tryz.prog 38 #[.pointer (some ⟨I.ss,0,none⟩), .int .i64 i, .int .u32 va, .int .u32 x] w fun e w'=>e= .returned (.int .i64 (qX s.ar Lb F i va 1 true))∧Out W0 w w' I q c D Q V Lb G i va 1 F (qX s.ar Lb F i va 1 true) (fun D' V'=>abH D V D' V' i va x∧va<32768):=by
 have HF:=Lib.hid (h.find i (p:=some s.blk) (by rw[jZ h hG,if_pos rfl,hG];rfl) (jZ h hG))
 obtain⟨er,her⟩:∃er,er=qX s.ar Lb F i va 1 true:=⟨_,rfl⟩
 have RC:=Lib.hid (show ∀W,Below w.heap.size w W→_ from fun W hb=>(h.step hb).adL hG hD va hva 1 (by decide) (by decide) true her)
 rw[←her]
 clear h her
 go_enter Tryz.func38,Tryz.ntmps38
 go_wp2_with fail
 refine HF.out.mono ?_
 rintro e w1 ⟨rfl,hb⟩
 have B:=Lib.hid hb
 clear hb
 simp only[Aa]
 go_wp2_with fail
 refine(RC.out w1 B.out).mono ?_
 rintro e w2 ⟨f,z,rfl,c',D',Q',V',dO,hs,hk,hne,hok⟩
 have S2:=Lib.hid hs
 have K2:=Lib.hid ((ay.below B.out).trans hk)
 have NE:=Lib.hid hne
 have OK:=Lib.hid hok
 clear hs hk hne hok
 by_cases h0:er=0
 ·subst h0
  have OK1:=Lib.hid (OK.out rfl).1
  obtain⟨_,hv,hz,F',hD',hp,hf,hwr⟩:=OK.out rfl
  have hp1:(va/32).toNat<1024:=by omega
  have hz1:z<32:=by omega
  obtain⟨f',hf',_,Le,_⟩:=S2.out.j.held hD' hp1 hp
  obtain rfl:f'=f:=by omega
  have hQ1:Q' f'=1:=by
   have:=S2.out.j.excl i F' _ hD' hp1 hp (hwr rfl)
   rwa [hf,Int.toNat_natCast]at this
  have WT:=Lib.hid (S2.out.bl.write f' z x Le hz1 hx)
  have c0:=S2.out.bl.cells.1
  have SW:Hid (abH D V D' (vR V' f' z x) i va x∧va<32768):=Lib.hid (by
   have hsn:=(OK.out rfl).1.1
   refine⟨⟨fun j r hr=>?_,fun j r y hr hy=>?_,hsn.dom⟩,hv⟩
   ·rw[hsn.pr j r hr,aaK];simp
   ·rw[S2.out.j.XI V' hD' hp1 hp hf hQ1 z x j r hr y,hsn.rd j r y hr hy,hz])
  clear hv hz hp hf hD' hf' Le hwr hQ1
  go_wp2_with fail
  refine WT.out.mono ?_
  rintro e w3 ⟨rfl,h3⟩
  have E3:=Lib.hid h3
  clear h3
  go_wp2
  go_ret
  exact⟨rfl,c',D',Q',_,_,⟨E3.out.1,S2.out.j⟩,K2.out.trans E3.out.2,fun e=>absurd rfl e,fun _=>⟨SW.out,OK1.out.2⟩⟩
 ·have hne':(er !=0)=true:=by simpa using h0
  go_wp2
  go_ret
  exact⟨rfl,c',D',Q',V',dO,S2.out,K2.out,NE.out,fun e=>absurd e h0⟩
end
end
section
def dn(G:Int→Option Pc)(i:Int)(s:Pc):Int→Option Pc:=fun j=>if j=i then some s else G j
theorem putG_same(G:Int→Option Pc)(i:Int)(s:Pc):dn G i s i=some s:=by simp[dn]
theorem aY(G:Int→Option Pc)(i:Int)(s:Pc){j:Int}(h:j≠i):dn G i s j=G j:=by simp[dn,h]
def tT(G:Int→Option Pc)(i:Int):Int→Option Pc:=fun j=>if j=i then none else G j
theorem nD(G:Int→Option Pc)(i:Int):tT G i i=none:=by simp[tT]
theorem iT(G:Int→Option Pc)(i:Int){j:Int}(h:j≠i):tT G i j=G j:=by simp[tT,h]
theorem Link.put{W:Nat→Option Sp}{G:Int→Option Pc}{D:Int→Option Sp}(h:Link W G D){i:Int}{x:Nat}{s:Pc}(hx:W x=none)(hs:s.root=x):Link (j6 W x (some qP)) (dn G i s) (aV D i (some qP)):=by
 refine⟨fun j hj=>?_,fun j t hj=>?_,fun j l t u hj hl e=>?_⟩
 ·by_cases e:j=i
  ·subst e;rw[putG_same]at hj;cases hj
  ·rw[aY _ _ _ e]at hj;rw[aJ _ _ _ e];exact h.none_ j hj
 ·by_cases e:j=i
  ·subst e
   rw[putG_same]at hj
   cases hj
   rw[hs,aQ,aR];exact⟨rfl,rfl⟩
  ·rw[aY _ _ _ e]at hj
   have h1:=h.some_ j t hj
   have:t.root≠x:=fun e2=>by rw[e2,hx]at h1;cases h1.1
   rw[au _ _ _ _ this,aJ _ _ _ e];exact h1
 ·by_cases e1:j=i
  ·by_cases e2:l=i
   ·rw[e1,e2]
   ·subst e1
    rw[putG_same]at hj
    rw[aY _ _ _ e2]at hl
    cases hj
    have h1:=(h.some_ l u hl).1
    rw[←e,hs,hx]at h1;cases h1
  ·by_cases e2:l=i
   ·subst e2
    rw[putG_same]at hl
    rw[aY _ _ _ e1]at hj
    cases hl
    have h1:=(h.some_ j t hj).1
    rw[e,hs,hx]at h1;cases h1
   ·rw[aY _ _ _ e1]at hj
    rw[aY _ _ _ e2]at hl
    exact h.inj j l t u hj hl e
section
variable (w:World) {ops:Array Oper} {rest:List Oper} {o:Oper} {a:Act} {Q:Exit→Act→World→Prop}
theorem rJ(hg:o.guard=none)(m x:Operand)(hop:o.op=Op.lookup 133 m x false)(b:Nat)(P:Pt)(hm:a.eval m= .map (some b))(h:aT w b P)(y:Int)(hx:a.eval x= .int .i64 y)(hy: -9223372036854775808≤y∧y≤9223372036854775807)(hc:P y=none)
  (hK:wpList Tryz.prog ops Q rest (a.put o.dst (.pointer none)) w):wpList Tryz.prog ops Q (o::rest) a w:=tK w hg m x hop b P hm h y hx hy none hc hK
theorem rM(hg:o.guard=none)(m x:Operand)(hop:o.op=Op.lookup 133 m x false)(b:Nat)(P:Pt)(hm:a.eval m= .map (some b))(h:aT w b P)(y:Int)(hx:a.eval x= .int .i64 y)(hy: -9223372036854775808≤y∧y≤9223372036854775807)(p:Nat)(hc:P y=some p)
  (hK:wpList Tryz.prog ops Q rest (a.put o.dst (.pointer (some ⟨p,0,none⟩))) w):wpList Tryz.prog ops Q (o::rest) a w:=tK w hg m x hop b P hm h y hx hy (some p) hc hK
end
section
variable {W0 w:World} {I:lK} {q c:Nat} {Q:Nat→Nat} {V:Nat→Nat→Int} {Lb:List Nd} {G:Int→Option Pc} {D:Int→Option Sp}
theorem Big.ahI{W:Nat→Option Sp}{Pb:Pt}{w':World}(h:Big W0 w I c W Q V Pb Lb G){i:Int}{s:Pc}(hG:G i=none)(hb:w.heap[s.blk]? =some (Tx i s))(ha:uW w s.v s.ar∧qQ s.ar)(hn:W0.heap.size≤s.blk)(hp:aT w' I.mm (gX (jL G) i (some s.blk)))(hg:w.grownBy w' (some I.mm)):Goes W0 w w' I c W Q V Lb (dn G i s):=by
 have ho:Only w w' (fun k=>k=I.mm):=Only.grown hg rfl
 obtain⟨es,ck,hm⟩:=h.map.isMap
 have hne:∀{k:Nat} {o:Obj},w.heap[k]? =some o→kindOf o≠none→k≠I.mm:=fun {k o} hk ho e=>by rw[e,hm]at hk;cases hk;exact ho rfl
 have hna:∀k,k=I.mm→Df w k:=fun k e=>by rw[e];exact tN hm
 have _:=hG
 refine h.own ho (fun k hk=>Or.inl hk) ?_ (fun j t hj=>?_)
 ·have:jL (dn G i s)=gX (jL G) i (some s.blk):=by
   funext j
   unfold jL gX dn
   by_cases e:j=i
   ·rw[if_pos e,if_pos e];rfl
   ·rw[if_neg e,if_neg e]
  rw[this];exact hp
 ·by_cases e:j=i
  ·subst e
   rw[putG_same]at hj
   cases hj
   exact⟨ho.kept hb (hne hb (by simp[Tx,kindOf])),ha.1.only ho hna,ha.2,hn⟩
  ·rw[aY _ _ _ e]at hj
   obtain⟨a,b,d⟩:=h.sp j t hj
   exact⟨ho.kept a (hne a (by simp[Tx,kindOf])),b.only ho hna,d,h.nsp j t hj⟩
theorem XY(h:bR Lb){i:Int}(hN:aD i Lb≠none){k:Nat}(hk:k≤60000):aX Lb i (k:Int)=if aS Lb i<(k:Int)then 3 else 0:=by
 unfold aX
 cases ha:aD i Lb with
 |none=>exact absurd ha hN
 |some x=>
  have hx:=(h.ok x (aj ha).1).1
  rw[(aj ha).2]at hx
  rw[if_pos (bN.2 ⟨hx,by omega,by omega⟩),if_neg (by simp)]
set_option maxHeartbeats 4000000 in
theorem BL.zO(h:BL W0 w I c Q V Lb G D)(hgd:bR Lb){i:Int}(hi:1≤i∧i≤8)(hG:G i=none)(hN:aD i Lb≠none)(cost:Nat)(hc:1≤cost∧cost≤60000)(hc1:(cost:Int)≤aS Lb i→c≠0):
  Calls Tryz.prog 93 #[.pointer (some ⟨I.ss,0,none⟩), .int .i64 i, .int .i64 (cost:Int)] w fun e w'=>(aS Lb i<(cost:Int)∧e= .returned (.tuple #[.pointer none, .int .i64 3])∧Below w.heap.size w w')∨((cost:Int)≤aS Lb i∧aX Lb i (cost:Int)=0∧c≠0∧∃s,s.ar=[]∧e= .returned (.tuple #[.pointer (some ⟨s.blk,0,none⟩), .int .i64 0])∧Ends W0 w w' I (c-1) Q V (aF Lb i (cost:Int)) (dn G i s) (aV D i (some qP))):=by
 obtain⟨d,hd⟩:∃d,d=aS Lb i:=⟨_,rfl⟩
 have LF:=Lib.hid (h.abF i hd.symm)
 have c3:=h.cells.2.2.2.1
 have DD:=Lib.hid hd
 have hDi:D i=none:=by obtain⟨W,Pb,_,h2⟩:=h;exact h2.none_ i hG
 rw[←hd]
 by_cases hlt:d<(cost:Int)
 ·clear hd
  go_enter Tryz.func93,Tryz.ntmps93
  go_wp2_with fail
  refine LF.out.mono ?_
  rintro e w1 ⟨rfl,hb⟩
  have B:=Lib.hid hb
  clear hb
  go_wp2
  go_ret2
  exact Or.inl ⟨hlt,rfl,B.out⟩
 ·have hce:aX Lb i (cost:Int)=0:=by rw[XY hgd hN hc.2,if_neg (by omega)]
  have hc1:c≠0:=hc1 (by omega)
  have HCZ:=Lib.hid hc1
  have HCE:=Lib.hid hce
  have H:=Lib.hid h
  have HG:=Lib.hid hG
  have HDI:=Lib.hid hDi
  have d1:decide (d<(cost:Int))=false:=decide_eq_false hlt
  clear hd h hG hDi hce hN hgd
  go_enter Tryz.func93,Tryz.ntmps93
  go_wp2_with fail
  refine LF.out.mono ?_
  rintro e w1 ⟨rfl,hb1⟩
  have B1:=Lib.hid hb1
  have S1:=Lib.hid (H.out.step hb1)
  obtain⟨W,Pb,hbig,rO⟩:=S1.out
  have BG:=Lib.hid hbig
  have LK:=Lib.hid rO
  have c4:=hbig.cells.2.2.2.2.1
  clear hb1 c3 hbig rO
  go_wp2_with fail
  refine BG.out.sys.open_.mono ?_
  rintro e w2 (⟨hcz,_⟩|⟨x,hx,hwx,_,rfl,hg⟩)
  ·exact absurd hcz hc1
  obtain⟨hb2,hk2⟩:=BG.out.Gj hg
  obtain⟨s,hs⟩:∃s:Pc,s=⟨w2.heap.size,x, .slice none 0 0,[]⟩:=⟨_,rfl⟩
  obtain⟨w3,hw3⟩:∃w3,w3=w2.alloc (.cells #[.int .i64 i, .int .i64 (x:Int), .slice none 0 0] 139):=⟨_,rfl⟩
  have adM:Below w2.heap.size w2 w3:=by rw[hw3];exact(Below.refl _ _).alloc (Nat.le_refl _) _
  have BG3:=Lib.hid (hb2.step adM)
  have N3:Hid (w3.heap[s.blk]? =some (Tx i s)):=Lib.hid (by rw[hw3,hs];exact heap_alloc_new w2 _)
  have K3:=Lib.hid (((ay.below B1.out).trans hk2).trans (ay.below adM))
  have SS:=Lib.hid hs
  have HWX:=Lib.hid hwx
  have NB:Hid (W0.heap.size≤s.blk):=Lib.hid (by rw[hs];exact hb2.sys.below.size)
  have ARN:Hid (uW w3 s.v s.ar∧qQ s.ar):=Lib.hid (by rw[hs];exact⟨uW.nil _,qQ.nil⟩)
  have c5:=BG3.out.cells.2.2.2.2.2
  subst hw3
  clear hg hb2 hk2 adM c4 hwx hx hs
  go_wp2_with(refine Er _ rfl (.tmp 37) (.tmp 38) (.tmp 39) rfl I.mm (jL G) rfl BG3.out.map i rfl hi w2.heap.size rfl ?_;intro w4 hp4 hg4;have P4:Hid (aT w4 I.mm (gX (jL G) i (some s.blk))∧(w2.alloc (.cells #[.int .i64 i, .int .i64 (x:Int), .slice none 0 0] 139)).grownBy w4 (some I.mm)):=Lib.hid (by rw[SS.out];exact⟨hp4,hg4⟩);obtain⟨⟨Pb4,hb4⟩,hk4⟩:=BG3.out.ahI HG.out N3.out ARN.out NB.out P4.out.1 P4.out.2;have BL4:Hid (BL W0 w4 I (c-1) Q V Lb (dn G i s) (aV D i (some qP))):=Lib.hid ⟨_,Pb4,hb4,LK.out.put HWX.out (by rw[SS.out])⟩;have K4:=Lib.hid (K3.out.trans hk4);have c3:=hb4.cells.2.2.2.1;clear hb4 hk4 hp4 hg4 c5)
  have CG:=Lib.hid (BL4.out.nE i (cost:Int) HCE.out)
  refine CG.out.mono ?_
  rintro e w5 ⟨rfl,h5⟩
  have E5:=Lib.hid h5
  clear h5
  go_wp2_with fail
  go_ret2
  exact Or.inr ⟨by omega,HCE.out,HCZ.out,s,by rw[SS.out],by rw[SS.out];rfl,E5.out.1,K4.out.trans E5.out.2⟩
theorem dR.abI(h:dR W0 w I q c D Q V Lb G ig (PG G)){i:Int}{s:Pc}{cost:Nat}{w':World}(hi:1≤i∧i≤8)(hG:G i=none)(hc:1≤cost)(hce:aX Lb i (cost:Int)=0)(k:BL W0 w' I (c-1) Q V (aF Lb i (cost:Int)) (dn G i s) (aV D i (some qP))):dR W0 w' I q (c-1) (aV D i (some qP)) Q V (aF Lb i (cost:Int)) (dn G i s) (single i (cost-1)) (PG (dn G i s)):=by
 have hDi:D i=none:=by obtain⟨W,Pb,_,h2⟩:=h.bl;exact h2.none_ i hG
 refine⟨k,?_⟩
 have hj:=h.j.nE hce
 rw[uO]at hj
 have hj2:=hj.open_ hDi hi (by rw[dQ];omega)
 rw[jY]at hj2
 refine hj2.pages fun j F p hj3 hp hF=>?_
 rcases fE hj3 with⟨rfl,rfl⟩|⟨hne,hj3⟩
 ·cases hF
 ·unfold PG;rw[aY _ _ _ hne]
theorem dR.roomy(h:dR W0 w I q c D Q V Lb G ig (PG G))(i:Int){n:Nat}(hn:1≤n)(hl:(n:Int)≤aS Lb i):c≠0:=by
 have hroom:=h.j.room i
 have:0≤(iO ig:Int):=by omega
 omega
theorem dR.zO(h:dR W0 w I q c D Q V Lb G ig (PG G)){i:Int}(hi:1≤i∧i≤8)(hG:G i=none)(hN:aD i Lb≠none)(cost:Nat)(hc:1≤cost∧cost≤60000):
  Calls Tryz.prog 93 #[.pointer (some ⟨I.ss,0,none⟩), .int .i64 i, .int .i64 (cost:Int)] w fun e w'=>(aS Lb i<(cost:Int)∧e= .returned (.tuple #[.pointer none, .int .i64 3])∧Below w.heap.size w w')∨((cost:Int)≤aS Lb i∧∃s c',s.ar=[]∧e= .returned (.tuple #[.pointer (some ⟨s.blk,0,none⟩), .int .i64 0])∧dR W0 w' I q c' (aV D i (some qP)) Q V (aF Lb i (cost:Int)) (dn G i s) (single i (cost-1)) (PG (dn G i s))∧ay w w'∧c'<c):=by
 refine(h.bl.zO h.j.tree.good hi hG hN cost hc (h.roomy i hc.1)).mono ?_
 rintro e w' (k|⟨hl,hce,hc0,s,hs,rfl,k⟩)
 ·exact Or.inl k
 ·exact Or.inr ⟨hl,s,c-1,hs,rfl,h.abI hi hG hc.1 hce k.1,k.2,by omega⟩
def jg(G:Int→Option Pc)(Lb:List Nd)(i:Int):Int:=if oz i=true then(if aD i Lb=none then 4 else if(G i).isSome=true then 5 else if aS Lb i<1 then 3 else 0)else 2
theorem BL.Qz(h:BL W0 w I c Q V Lb G D)(hgd:bR Lb){i:Int}(hid:oz i=true)(hN:(aD i Lb).isSome=true)(hGi:G i=none)(hc1:1≤aS Lb i→c≠0):
  Calls Tryz.prog 99 #[.pointer (some ⟨I.ss,0,none⟩), .int .i64 i] w fun e w'=>(aS Lb i<1∧e= .returned (.int .i64 3)∧Below w.heap.size w w')∨(1≤aS Lb i∧aX Lb i ((1:Nat):Int)=0∧c≠0∧e= .returned (.int .i64 0)∧∃s,s.ar=[]∧Ends W0 w w' I (c-1) Q V (aF Lb i ((1:Nat):Int)) (dn G i s) (aV D i (some qP))):=by
 have hth:∀W',Below w.heap.size w W'→Calls Tryz.prog 152 #[.pointer (some ⟨I.ss,0,none⟩)] W' fun e w'=>e= .returned (.bool true)∧W'=w':=by obtain⟨W,Pb,h1,_⟩:=h;exact h1.there
 have hi:1≤i∧i≤8:=by unfold oz at hid;simpa using hid
 have AK:=Lib.hid (tO (some ⟨I.ss,0,none⟩) true i w hth (Dg hid))
 have ICN:=Lib.hid (show ∀W,Below w.heap.size w W→Calls Tryz.prog 92 #[.pointer (some ⟨I.ss,0,none⟩), .int .i64 i] W fun e w'=>e= .returned (.bool true)∧Below W.heap.size W w' from fun W hb=>by have:=(h.step hb).tQ i;rwa [hN]at this)
 have MP:=Lib.hid (show ∀W,Below w.heap.size w W→W.cell? ⟨I.ss,5,none⟩=some (.map (some I.mm))∧aT W I.mm (jL G)from fun W hb=>by obtain⟨W1,Pb,h1,_⟩:=h.step hb;exact⟨h1.cells.2.2.2.2.2,h1.map⟩)
 have HB:=Lib.hid (show jL G i=none by simp[hGi])
 have OP:=Lib.hid (show ∀W,Below w.heap.size w W→Calls Tryz.prog 93 #[.pointer (some ⟨I.ss,0,none⟩), .int .i64 i, .int .i64 1] W _ from fun W hb=>(h.step hb).zO hgd hi hGi (by intro e;rw[e]at hN;cases hN) 1 (by decide) (by simpa using hc1))
 clear h hth hGi hN hgd hc1
 go_enter Tryz.func99,Tryz.ntmps99
 go_wp2_with fail
 refine AK.out.mono ?_
 rintro e w1 ⟨rfl,hb⟩
 have B:=Lib.hid hb
 clear hb
 go_wp2_with fail
 refine(ICN.out w1 B.out).mono ?_
 rintro e w2 ⟨rfl,hb⟩
 have B2:=Lib.hid (B.out.trans (hb.mono B.out.size))
 clear hb
 obtain⟨c5,hmp⟩:=MP.out w2 B2.out
 have M2:=Lib.hid hmp
 clear hmp
 go_wp2_with(refine rJ _ rfl (.tmp 24) (.tmp 25) rfl I.mm (jL G) rfl M2.out i rfl (by omega) HB.out ?_)
 refine(OP.out w2 B2.out).mono ?_
 rintro e w3 (⟨hl,rfl,hb⟩|⟨hl,hce,hc0,s,hs,rfl,hst⟩)
 ·have B3:=Lib.hid (B2.out.trans (hb.mono B2.out.size))
  have LL:=Lib.hid hl
  clear hb hl
  go_wp2
  go_ret
  exact Or.inl ⟨by have:=LL.out;omega,rfl,B3.out⟩
 ·have S3:=Lib.hid (Ends.ahead B2.out hst)
  have LL:=Lib.hid (And.intro hl (And.intro hce (And.intro hc0 hs)))
  clear hst hl hs hce hc0
  go_wp2
  go_ret
  have l1:=LL.out.1
  exact Or.inr ⟨by omega,LL.out.2.1,LL.out.2.2.1,rfl,s,LL.out.2.2.2,S3.out⟩
theorem zR(i:Int):single i (1-1)=ig:=jX i
set_option maxHeartbeats 4000000 in
theorem dR.open_(h:dR W0 w I q c D Q V Lb G ig (PG G))(i:Int):
  Calls Tryz.prog 99 #[.pointer (some ⟨I.ss,0,none⟩), .int .i64 i] w fun e w'=>e= .returned (.int .i64 (jg G Lb i))∧ay w w'∧(jg G Lb i≠0∧dR W0 w' I q c D Q V Lb G ig (PG G)∨jg G Lb i=0∧(1≤i∧i≤8)∧G i=none∧∃s c',s.ar=[]∧dR W0 w' I q c' (aV D i (some qP)) Q V (aF Lb i 1) (dn G i s) ig (PG (dn G i s))):=by
 have hth:∀W',Below w.heap.size w W'→Calls Tryz.prog 152 #[.pointer (some ⟨I.ss,0,none⟩)] W' fun e w'=>e= .returned (.bool true)∧W'=w':=by obtain⟨W,Pb,h1,_⟩:=h.bl;exact h1.there
 cases hid:oz i with
 |false=>
  have e1:jg G Lb i=2:=by unfold jg;rw[hid];rfl
  have AK:=Lib.hid (tO (some ⟨I.ss,0,none⟩) true i w hth (LH hid))
  rw[e1]
  have H:=Lib.hid h
  clear h hth e1
  go_enter Tryz.func99,Tryz.ntmps99
  go_wp2_with fail
  refine AK.out.mono ?_
  rintro e w1 ⟨rfl,hb⟩
  have B:=Lib.hid hb
  clear hb
  go_wp2
  go_ret
  exact⟨rfl,ay.below B.out,Or.inl ⟨by decide,H.out.step B.out⟩⟩
 | true=>
  have hi:1≤i∧i≤8:=by unfold oz at hid;simpa using hid
  have AK:=Lib.hid (tO (some ⟨I.ss,0,none⟩) true i w hth (Dg hid))
  have IC:=Lib.hid (show ∀W,Below w.heap.size w W→_ from fun W hb=>(h.bl.step hb).tQ i)
  have H:=Lib.hid h
  cases hN:aD i Lb with
  |none=>
   have e1:jg G Lb i=4:=by unfold jg;rw[hid,if_pos rfl,if_pos hN]
   rw[e1]
   have ICN:=Lib.hid (show ∀W,Below w.heap.size w W→Calls Tryz.prog 92 #[.pointer (some ⟨I.ss,0,none⟩), .int .i64 i] W fun e w'=>e= .returned (.bool false)∧Below W.heap.size W w' from fun W hb=>by have:=IC.out W hb;rwa [hN]at this)
   clear h hth e1 IC
   go_enter Tryz.func99,Tryz.ntmps99
   go_wp2_with fail
   refine AK.out.mono ?_
   rintro e w1 ⟨rfl,hb⟩
   have B:=Lib.hid hb
   clear hb
   go_wp2_with fail
   refine(ICN.out w1 B.out).mono ?_
   rintro e w2 ⟨rfl,hb⟩
   have B2:=Lib.hid (B.out.trans (hb.mono B.out.size))
   clear hb
   go_wp2
   go_ret
   exact⟨rfl,ay.below B2.out,Or.inl ⟨by decide,H.out.step B2.out⟩⟩
  | some nd=>
   have ICN:=Lib.hid (show ∀W,Below w.heap.size w W→Calls Tryz.prog 92 #[.pointer (some ⟨I.ss,0,none⟩), .int .i64 i] W fun e w'=>e= .returned (.bool true)∧Below W.heap.size W w' from fun W hb=>by have:=IC.out W hb;rwa [hN]at this)
   have MP:=Lib.hid (show ∀W,Below w.heap.size w W→W.cell? ⟨I.ss,5,none⟩=some (.map (some I.mm))∧aT W I.mm (jL G)from fun W hb=>by obtain⟨W1,Pb,h1,_⟩:=(H.out.step hb).bl;exact⟨h1.cells.2.2.2.2.2,h1.map⟩)
   cases hGi:G i with
   |some s=>
    have e1:jg G Lb i=5:=by unfold jg;rw[hid,if_pos rfl,if_neg (by rw[hN];simp),hGi];rfl
    rw[e1]
    have HB:=Lib.hid (show jL G i=some s.blk by simp[hGi])
    clear h hth e1 IC hGi
    go_enter Tryz.func99,Tryz.ntmps99
    go_wp2_with fail
    refine AK.out.mono ?_
    rintro e w1 ⟨rfl,hb⟩
    have B:=Lib.hid hb
    clear hb
    go_wp2_with fail
    refine(ICN.out w1 B.out).mono ?_
    rintro e w2 ⟨rfl,hb⟩
    have B2:=Lib.hid (B.out.trans (hb.mono B.out.size))
    clear hb
    obtain⟨c5,hmp⟩:=MP.out w2 B2.out
    have M2:=Lib.hid hmp
    clear hmp
    go_wp2_with(refine rM _ rfl (.tmp 24) (.tmp 25) rfl I.mm (jL G) rfl M2.out i rfl (by omega) s.blk HB.out ?_)
    go_ret
    exact⟨rfl,ay.below B2.out,Or.inl ⟨by decide,H.out.step B2.out⟩⟩
   | none=>
    have e1:jg G Lb i=if aS Lb i<1 then 3 else 0:=by unfold jg;rw[hid,if_pos rfl,if_neg (by rw[hN];simp),hGi];rfl
    rw[e1]
    refine(h.bl.Qz h.j.tree.good hid (by rw[hN];rfl) hGi fun hl=>h.roomy i (n:=1) (by decide) (by omega)).mono ?_
    rintro e w' (⟨hl,rfl,hb⟩|⟨hl,hce,hc0,rfl,s,hs,k⟩)
    ·rw[if_pos hl]
     exact⟨rfl,ay.below hb,Or.inl ⟨by decide,h.step hb⟩⟩
    ·rw[if_neg (by omega)]
     have:=h.abI hi hGi (by decide) hce k.1
     rw[zR]at this
     exact⟨rfl,k.2,Or.inr ⟨rfl,hi,rfl,s,c-1,hs,this⟩⟩
end
end
section
structure Dp(D:Int→Option Sp)(D':Int→Option Sp)(V:Nat→Nat→Int)(i:Int)(L:List Nat):Prop where
 pr:∀j r,r<1024→qz D' j r=(qz D j r&& !(decide (j=i)&&decide (r∈L)))
 rd:∀(U:Nat→Nat→Int) j r y,r<1024→y<32→ou D' U j r y=if j=i∧r∈L then 0 else ou D U j r y
 dom:∀j,(D' j).isSome=(D j).isSome
 far:∀j r,(D' j).isSome=true→(qz D' j r=qz D j r∨qz D' j r=false)
theorem Dp.refl(D:Int→Option Sp)(V:Nat→Nat→Int)(i:Int):Dp D D V i []:=⟨fun j r _=>by simp,fun _ _ _ _ _ _=>by simp,fun _=>rfl,fun _ _ _=>Or.inl rfl⟩
section
variable {W0 w:World} {I:lK} {q c:Nat} {Q:Nat→Nat} {V:Nat→Nat→Int} {Lb:List Nd} {G:Int→Option Pc} {D:Int→Option Sp} {P:Int→Nat→Option Bool}
theorem dR.XZ(h:dR W0 w I q c D Q V Lb G ig P){i:Int}{s:Pc}{F:Sp}(hG:G i=some s)(hD:D i=some F){b2 b3:Nat}(hcap:Cap w b2 b3 I.ss s.blk){v:Value}{L:List Nat}(hv:jw w v L)(hL:L.length≤2000)(hL2:∀p∈L,p≤100000):
  Calls Tryz.prog 95 #[.pointer (some ⟨I.ss,0,none⟩), .pointer (some ⟨s.blk,0,none⟩),v, .func (.func 141) #[] #[.pointer (some ⟨b2,0,none⟩), .pointer (some ⟨b3,0,none⟩)]] w fun e w'=>e= .returned (.int .i64 0)∧∃c' D' Q' m,dR W0 w' I q c' D' Q' V Lb G (single i m) P∧ay w w'∧Dp D D' V i L:=by
 refine(om I.ss s.blk I.tb 141 (s.root:Int) _ I6 v L
  (fun k U=>∃c' D' Q' m,dR W0 U I q c' D' Q' V Lb G (single i m) P∧ay w U∧Dp D D' V i (L.take k))
  (fun _ _=>False) w
  (fun k U ⟨_,_,_,_,a,b,_⟩=>⟨a.bl.cells.2.2.2.2.1,(a.bl.iK hG).2.1,hv.keep b⟩)
  (fun k U U' ⟨c',D',Q',m,a,b,d⟩ hb=>⟨c',D',Q',m,a.step hb,b.trans (ay.below hb),d⟩)
  (fun k U hk ⟨c',D',Q',m,a,b,d⟩=>?_) ⟨c,D,Q,0,by rw[jX];exact h,ay.refl _,by simpa using Dp.refl D V i⟩ (by omega)).mono ?_
 ·have hmem:L.getD k 0∈L:=by
   rw[List.getD_eq_getElem?_getD,List.getElem?_eq_getElem hk];exact List.getElem_mem hk
  obtain⟨F',hF'⟩:∃F',D' i=some F':=by
   have:=d.dom i
   rw[hD]at this
   exact Option.isSome_iff_exists.1 this
  obtain⟨x1,x2,g,he⟩:=xk F' (L.getD k 0)
  refine⟨_,x1,x2,g,_,fun V0 hb=>(a.bl.step hb).queryP hG hF' _ (hL2 _ hmem) he,fun V0 hb=>?_⟩
  cases hpr:(lM F' (L.getD k 0)&&decide (L.getD k 0<1024))with
  | false=>
   refine(Oq b2 b3 _ x1 x2 g V0).mono ?_
   rintro e w' ⟨rfl,hb'⟩
   refine⟨0,rfl,Or.inl ⟨rfl,c',D',Q',m,(a.step hb).step hb',(b.trans (ay.below hb)).trans (ay.below hb'),?_⟩⟩
   have hoff:∀r,r<1024→r=L.getD k 0→qz D' i r=false:=fun r hr er=>by
    rw[←er,decide_eq_true hr,Bool.and_true]at hpr
    rw[bO hF'];exact hpr
   refine⟨fun j r hr=>?_,fun U j r y hr hy=>?_,d.dom,d.far⟩
   ·rw[dX hk]
    by_cases ej:j=i∧r=L.getD k 0
    ·have h1:=hoff r hr ej.2
     rw[←ej.1]at h1
     rw[h1,ej.1]
     have:=d.pr j r hr
     rw[h1,ej.1]at this
     generalize L.getD k 0=pk at ej
     simp[ej.2]
    ·rw[d.pr j r hr]
     generalize L.getD k 0=pk at ej ⊢
     by_cases e1:j=i
     ·have:r≠pk:=fun e2=>ej ⟨e1,e2⟩
      simp[this]
     ·simp[e1]
   ·rw[dX hk]
    by_cases ej:j=i∧r=L.getD k 0
    ·have h1:=hoff r hr ej.2
     rw[ej.1,Qs h1]
     generalize L.getD k 0=pk at ej
     simp[ej.2]
    ·rw[d.rd U j r y hr hy]
     generalize L.getD k 0=pk at ej ⊢
     by_cases e1:j=i
     ·have:r≠pk:=fun e2=>ej ⟨e1,e2⟩
      simp[this]
     ·simp[e1]
  | true=>
   rw[hpr]at he
   obtain⟨hp1,hp2⟩:lM F' (L.getD k 0)=true∧L.getD k 0<1024:=by simpa using hpr
   obtain⟨f,hf,hfn,Le,hfit⟩:=a.j.held hF' hp2 hp1
   have hent:F' (L.getD k 0)=(true,x1,x2,g):=by
    unfold MJ at he
    rwa [if_pos ⟨hp2,hp1⟩]at he
   have hg:g=(f:Int):=by rw[hent]at hf;exact hf
   subst hg
   refine((a.bl.step hb).drop1 hG hF' ((hcap.keep b).below hb) hp2 hent Le).mono ?_
   rintro e w' ⟨rfl,hend⟩
   have hj:=a.j.drop hF' hp2 hp1 hf
   rw[Ma]at hj
   refine⟨0,rfl,Or.inl ⟨rfl,_,_,_,_,⟨hend.1,hj⟩,(b.trans (ay.below hb)).trans hend.2,?_⟩⟩
   refine⟨fun j r hr=>?_,fun U j r y hr hy=>?_,fun j=>(qV hF' _ j).trans (d.dom j),fun j r hs=>?_⟩
   ·rw[(I8 V hF' _ j r).1,d.pr j r hr,dX hk]
    generalize L.getD k 0=pk
    by_cases e1:j=i
    ·by_cases e2:r=pk
     ·simp[e1,e2]
     ·simp[e1,e2]
    ·simp[e1]
   ·rw[(I8 U hF' _ j r).2 y,d.rd U j r y hr hy,dX hk]
    generalize L.getD k 0=pk
    by_cases e1:j=i
    ·by_cases e2:r=pk
     ·simp[e1,e2]
     ·simp[e1,e2]
    ·simp[e1]
   ·rw[(I8 V hF' _ j r).1]
    rw[qV hF' _ j]at hs
    rcases d.far j r hs with h1|h1
    ·rw[h1]
     cases hx:(decide (j=i∧r=L.getD k 0))<;>simp
    ·rw[h1];simp
 ·rintro e w' ⟨er,rfl,⟨rfl,c',D',Q',m,a,b,d⟩|⟨_,hf⟩⟩
  ·rw[List.take_length]at d
   exact⟨rfl,c',D',Q',m,a,b,d⟩
  ·exact hf.elim
set_option maxHeartbeats 4000000 in
theorem dR.abJ(h:dR W0 w I q c D Q V Lb G ig P){i:Int}{s:Pc}{F:Sp}(hG:G i=some s)(hD:D i=some F){v:Value}{L:List Nat}(hv:jw w v L)(hL:L.length≤2000)(hL2:∀p∈L,p≤100000):
  Calls Tryz.prog 81 #[.pointer (some ⟨I.ss,0,none⟩), .pointer (some ⟨s.blk,0,none⟩),v] w fun e w'=>e= .returned (.int .i64 0)∧∃c' D' Q' F',D' i=some F'∧dR W0 w' I q c' D' Q' V (bI Lb i ((cO F-cO F':Nat):Int)) G ig P∧ay w w'∧Dp D D' V i L:=by
 have pE:∀(fn:Fn) (first cap:Array Value) (w:World),(Instr.makeFunc fn first cap).run Tryz.prog w= .ok (.func fn first cap) w:=fun _ _ _ _=>rfl
 obtain⟨w1,hw1⟩:∃w1,w1=(w.alloc (.cells #[.pointer (some ⟨I.ss,0,none⟩)] 34)).alloc (.cells #[.pointer (some ⟨s.blk,0,none⟩)] 127):=⟨_,rfl⟩
 have B1:Hid (Below w.heap.size w w1):=Lib.hid (by rw[hw1];exact ak _ _ _)
 have C1:Hid (Cap w1 w.heap.size (w.heap.size+1) I.ss s.blk):=Lib.hid (by rw[hw1];exact⟨heap_alloc2_old w _ _,heap_alloc2_new w _ _⟩)
 have CT:=Lib.hid ((h.step B1.out).bl.cost hG hD)
 have H:=Lib.hid h
 have HG:=Lib.hid hG
 have HD:=Lib.hid hD
 have HV:=Lib.hid hv
 have hct:cO F≤2000:=by
  unfold cO vP Ae rU
  have h1:=List.length_filter_le (hasB F) (List.range 32)
  have h2:=List.length_filter_le (fun p=>(F p).1) (List.range 1024)
  rw[List.length_range]at h1 h2
  omega
 obtain⟨y2,y3⟩:_∧_:=⟨C1.out.c2,C1.out.c3⟩
 obtain⟨cf,hcf⟩:∃cf,cf=cO F:=⟨_,rfl⟩
 have CF:=Lib.hid hcf
 rw[←hcf]at CT hct ⊢
 clear h hG hD hv hcf
 subst hw1
 go_enter Tryz.func81,Tryz.ntmps81
 go_wp2_with fail
 refine CT.out.mono ?_
 rintro e w2 ⟨rfl,hb2⟩
 have B2:=Lib.hid (B1.out.trans (hb2.mono B1.out.size))
 have C2:=Lib.hid (C1.out.below hb2)
 have WK:=Lib.hid (dR.XZ (H.out.step B2.out) HG.out HD.out C2.out (HV.out.keep (ay.below B2.out)) hL hL2)
 obtain⟨z2,z3⟩:_∧_:=⟨C2.out.c2,C2.out.c3⟩
 clear hb2 y2 y3
 go_wp2_with fail
 refine WK.out.mono ?_
 rintro e w3 ⟨rfl,c3,D3,Q3,m,hs3,hk3,hd3⟩
 have S3:=Lib.hid hs3
 have K3:=Lib.hid ((ay.below B2.out).trans hk3)
 have C3:=Lib.hid (C2.out.keep hk3)
 have SD:=Lib.hid hd3
 obtain⟨F3,YS⟩:∃F',D3 i=some F':=by
  have:=hd3.dom i
  rw[HD.out]at this
  exact Option.isSome_iff_exists.1 this
 have HF3:=Lib.hid YS
 have hm:cf=cO F3+m:=by
  have h1:=hs3.j.ko i
  have h2:=H.out.j.ko i
  rw[YS,dQ]at h1
  rw[HD.out]at h2
  simp only[fI,ig]at h1 h2
  rw[CF.out];omega
 have hne:aD i Lb≠none:=hs3.j.there YS
 have hrf:=hs3.j.Qi (k:=m) (by rw[dQ];omega) (hs3.j.pid i F3 YS) hne
 have S3R:Hid (∀W,dR W0 W I q c3 D3 Q3 V Lb G (single i m) P→J I.n q c3 D3 Q3 (bI Lb i (m:Int)) ig P):=Lib.hid fun W hW=>by
  have:=hW.j.oQ hrf (by rw[dQ];omega)
  rwa [jY,Nat.sub_self,jX]at this
 have HM:=Lib.hid hm
 have RF:=Lib.hid hrf
 have CT3:=Lib.hid ((S3.out.step (Below.refl _ _).drew).bl.cost HG.out HF3.out)
 have cb:=S3.out.bl.cells.2.2.2.1
 have s0:=(S3.out.bl.iK HG.out).1
 obtain⟨u2,u3⟩:_∧_:=⟨C3.out.c2,C3.out.c3⟩
 obtain⟨cg,hcg⟩:∃cg,cg=cO F3:=⟨_,rfl⟩
 have CG3:=Lib.hid hcg
 rw[←hcg]at CT3 hm
 have d4:IntKind.i64.wrap ((cf:Int)-(cg:Int))=(m:Int):=by
  rw[show(cf:Int)-(cg:Int)=(m:Int) by omega];exact IntWalk.i64_in _ (by omega)
 clear hs3 hk3 hd3 YS hne hrf hcg z2 z3 hm
 go_wp2_with fail
 go_region_held3 (fun W=>(W.cell? ⟨w.heap.size,0,none⟩=some (.pointer (some ⟨I.ss,0,none⟩))∧W.cell? ⟨w.heap.size+1,0,none⟩=some (.pointer (some ⟨s.blk,0,none⟩)))∧W.cell? ⟨I.ss,3,none⟩=some (.pointer (some ⟨I.bb,0,none⟩))∧W.cell? ⟨s.blk,0,none⟩=some (.int .i64 i)) (first|go_keep|exact⟨⟨u2,u3⟩,cb,s0⟩)
  (first
   |((go_at_call 94;with_reducible refine CT3.out.mono ?_);rintro e w4 ⟨rfl,hb4⟩;have B4:Hid (Below w3.heap.size w3 w4):=Lib.hid (eF hb4);have S4:=Lib.hid (S3.out.step B4.out);have C4:=Lib.hid (C3.out.below B4.out);have cb:=S4.out.bl.cells.2.2.2.1;have s0:=(S4.out.bl.iK HG.out).1;have u2:=C4.out.c2;have u3:=C4.out.c3;have RFC:=Lib.hid (S4.out.bl.oQ i (m:Int) RF.out);clear hb4)
   |((go_at_call 110;with_reducible refine RFC.out.mono ?_);rintro e w5 ⟨rfl,h5⟩;have E5:=Lib.hid h5;have C5:=Lib.hid (C4.out.keep h5.2);have cb:=E5.out.1.cells.2.2.2.1;have s0:=(E5.out.1.iK HG.out).1;have u2:=C5.out.c2;have u3:=C5.out.c3;clear h5))
 go_wp2_with fail
 go_ret
 refine⟨rfl,c3,D3,Q3,F3,HF3.out,?_,(K3.out.trans (ay.below B4.out)).trans E5.out.2,SD.out⟩
 have e1:cf-cO F3=m:=by have:=HM.out;omega
 rw[e1]
 exact⟨E5.out.1,S3R.out _ S4.out⟩
end
end
section
theorem Link.del{W:Nat→Option Sp}{G:Int→Option Pc}{D:Int→Option Sp}(h:Link W G D){i:Int}{s:Pc}(hG:G i=some s):Link (j6 W s.root none) (tT G i) (aV D i none):=by
 refine⟨fun j hj=>?_,fun j t hj=>?_,fun j l t u hj hl e=>?_⟩
 ·by_cases e:j=i
  ·subst e;rw[aR]
  ·rw[iT _ _ e]at hj;rw[aJ _ _ _ e];exact h.none_ j hj
 ·by_cases e:j=i
  ·subst e;rw[nD]at hj;cases hj
  ·rw[iT _ _ e]at hj
   have:t.root≠s.root:=fun e2=>e (h.inj j i t s hj hG e2)
   rw[au _ _ _ _ this,aJ _ _ _ e];exact h.some_ j t hj
 ·by_cases e1:j=i
  ·subst e1;rw[nD]at hj;cases hj
  ·by_cases e2:l=i
   ·subst e2;rw[nD]at hl;cases hl
   ·rw[iT _ _ e1]at hj
    rw[iT _ _ e2]at hl
    exact h.inj j l t u hj hl e
section
variable {W0 w:World} {I:lK} {q c:Nat} {Q:Nat→Nat} {V:Nat→Nat→Int} {Lb:List Nd} {G:Int→Option Pc} {D:Int→Option Sp}
theorem Big.ahK{W:Nat→Option Sp}{Pb:Pt}{w':World}(h:Big W0 w I c W Q V Pb Lb G){i:Int}(hp:aT w' I.mm (gX (jL G) i none))(hg:w.grownBy w' (some I.mm)):Goes W0 w w' I c W Q V Lb (tT G i):=by
 have ho:Only w w' (fun k=>k=I.mm):=Only.grown hg rfl
 obtain⟨es,ck,hm⟩:=h.map.isMap
 have hne:∀{k:Nat} {o:Obj},w.heap[k]? =some o→kindOf o≠none→k≠I.mm:=fun {k o} hk ho e=>by rw[e,hm]at hk;cases hk;exact ho rfl
 have hna:∀k,k=I.mm→Df w k:=fun k e=>by rw[e];exact tN hm
 refine h.own ho (fun k hk=>Or.inl hk) ?_ (fun j t hj=>?_)
 ·have:jL (tT G i)=gX (jL G) i none:=by
   funext j
   unfold jL gX tT
   by_cases e:j=i
   ·rw[if_pos e,if_pos e];rfl
   ·rw[if_neg e,if_neg e]
  rw[this];exact hp
 ·by_cases e:j=i
  ·subst e;rw[nD]at hj;cases hj
  ·rw[iT _ _ e]at hj
   obtain⟨a,b,d⟩:=h.sp j t hj
   exact⟨ho.kept a (hne a (by simp[Tx,kindOf])),b.only ho hna,d,h.nsp j t hj⟩
theorem QC(b:Nat→Bool)(p:Nat):p∈DV b↔p<1024∧b p=true:=by simp[DV]
set_option maxHeartbeats 4000000 in
theorem dR.close(h:dR W0 w I q c D Q V Lb G ig (PG G)){i:Int}{s:Pc}{F:Sp}(hG:G i=some s)(hD:D i=some F):
  Calls Tryz.prog 53 #[.pointer (some ⟨I.ss,0,none⟩), .int .i64 i] w fun e w'=>e= .returned (.int .i64 0)∧ay w w'∧∃c' D' Q' dO,dR W0 w' I q c' D' Q' V dO (tT G i) ig (PG (tT G i))∧(D' i=none∧∃a b,dO=bI (bI Lb i a) i b)∧∀j,j≠i→(D' j).isSome=(D j).isSome∧∀r,r<1024→qz D' j r=qz D j r∧∀(U:Nat→Nat→Int) y,y<32→ou D' U j r y=ou D U j r y:=by
 have HF:=Lib.hid (h.find i (p:=some s.blk) (by rw[jZ h hG,if_pos rfl,hG];rfl) (jZ h hG))
 have MP:=Lib.hid (show ∀W,Below w.heap.size w W→_ from fun W hb=>(h.step hb).bl.mapped hG hD)
 have H:=Lib.hid h
 have HG:=Lib.hid hG
 have HD:=Lib.hid hD
 have hi:=h.j.pid i F hD
 clear h hG hD
 go_enter Tryz.func53,Tryz.ntmps53
 go_wp2_with fail
 refine HF.out.mono ?_
 rintro e w1 ⟨rfl,hb⟩
 have B1:=Lib.hid hb
 clear hb
 simp only[Aa]
 go_wp2_with fail
 refine(MP.out w1 B1.out).mono ?_
 rintro e w2 ⟨v,rfl,ho,hb⟩
 have B2:=Lib.hid (B1.out.trans (hb.mono B1.out.size))
 have DR:=Lib.hid ((H.out.step B2.out).abJ HG.out HD.out (jw.lJ ho) (by unfold DV;exact Nat.le_trans (List.length_filter_le _ _) (by simp)) (fun p hp=>by have:=((QC _ p).1 hp).1;omega))
 clear ho hb
 go_wp2_with fail
 refine DR.out.mono ?_
 rintro e w3 ⟨rfl,c3,D3,Q3,F3,YS,hs3,hk3,hd3⟩
 have S3:=Lib.hid hs3
 have K3:=Lib.hid ((ay.below B2.out).trans hk3)
 have SD:=Lib.hid hd3
 have HF3:=Lib.hid YS
 have EMP:Hid (∀p,p<1024→(F3 p).1=false):=Lib.hid fun p hp=>by
  have h1:=hd3.pr i p hp
  rw[bO YS,bO HD.out]at h1
  rw[h1]
  cases hx:(F p).1 with
  |false=>rfl
  |true=>
   have:p∈DV fun p=>(F p).1:=(QC _ p).2 ⟨hp,hx⟩
   simp[this]
 obtain⟨W,Pb,hbig,rO⟩:=hs3.bl
 have BG:=Lib.hid hbig
 have LK:=Lib.hid rO
 have hw:=rO.of HG.out YS
 have hcl:kM W (s.root:Int)=0:=by
  unfold kM
  rw[gP,hw]
  simp only
  rw[if_pos]
  exact(Cm F3).2 fun a ha=>yF fun b hb=>EMP.out _ (by omega)
 have hrt:=hs3.bl.root HG.out
 have hn1:=hs3.bl.mo.1
 have CLR:Hid (kM W (s.root:Int)=0):=Lib.hid hcl
 have CL:=Lib.hid ((BG.out.step (Below.refl _ _).drew).sys.close (s.root:Int) (Dh (by omega)))
 rw[hcl]at CL
 have c4:=hbig.cells.2.2.2.2.1
 have s1:=(hbig.iK HG.out).2.1
 clear hs3 hk3 hd3 YS hbig rO hw hcl hrt hn1
 go_wp2_with fail
 go_still_tail 8,(by kernel_rfl)
 go_wp2_with fail
 refine CL.out.mono ?_
 rintro e w4 ⟨rfl,hg4⟩
 have afC:mV W0 w3.drew w4 I.tb I.sb I.X I.n I.lo I.hi (c3+1) (j6 W s.root none) Q3 V:=by
  unfold ado adp at hg4
  rw[if_pos CLR.out,if_pos CLR.out,Int.toNat_natCast]at hg4
  exact hg4
 obtain⟨hb4,hk4⟩:=(BG.out.step (Below.refl _ _).drew).Gj afC
 have BG4:=Lib.hid hb4
 have K4:=Lib.hid (K3.out.trans ((ay.below (Below.refl w3.heap.size w3).drew).trans hk4))
 have c5:=hb4.cells.2.2.2.2.2
 clear hg4 afC hb4 hk4 c4 s1
 go_wp2_with(refine Dc _ rfl (.tmp 42) (.tmp 43) rfl I.mm (jL G) rfl BG4.out.map i rfl hi ?_;intro w5 hp5 hg5;have G5:=Lib.hid (BG4.out.ahK hp5 hg5);obtain⟨⟨Pb5,hb5⟩,hk5⟩:=G5.out;have BL5:Hid (BL W0 w5 I (c3+1) Q3 V (bI Lb i ((cO F-cO F3:Nat):Int)) (tT G i) (aV D3 i none)):=Lib.hid ⟨_,Pb5,hb5,LK.out.del HG.out⟩;have K5:=Lib.hid (K4.out.trans hk5);have c3':=hb5.cells.2.2.2.1;clear hb5 hk5 hp5 hg5 c5)
 have hj:=S3.out.j.close HF3.out EMP.out
 rw[uO]at hj
 have hnn:aD i (bI Lb i ((cO F-cO F3:Nat):Int))≠none:=S3.out.j.there HF3.out
 have hrf:=hj.Qi (i:=i) (k:=1) (by rw[dQ];omega) hi hnn
 have J5:=Lib.hid (hj.oQ (i:=i) (k:=1) hrf (by rw[dQ];omega))
 have RF:=Lib.hid (BL5.out.oQ i ((1:Nat):Int) hrf)
 clear hj hnn hrf
 refine(show Calls Tryz.prog 110 #[.pointer (some ⟨I.bb,0,none⟩), .int .i64 i, .int .i64 1] w5 _ from RF.out).mono ?_
 rintro e w6 ⟨rfl,h6⟩
 have E6:=Lib.hid h6
 clear h6
 go_wp2_with fail
 go_ret
 refine⟨rfl,K5.out.trans E6.out.2,_,_,_,_,⟨E6.out.1,?_⟩,⟨aR _ _ _,_,_,rfl⟩,fun j hne=>⟨?_,fun r hr=>⟨?_,fun U y hy=>?_⟩⟩⟩
 ·have:=J5.out
  rw[jY,zR]at this
  refine this.pages fun j F' p hj hp hF=>?_
  have:j≠i:=by rintro rfl;rw[aR]at hj;cases hj
  unfold PG;rw[iT _ _ this]
 ·rw[aJ _ _ _ hne];exact SD.out.dom j
 ·have:qz (aV D3 i none) j r=qz D3 j r:=by unfold qz;rw[aJ _ _ _ hne]
  rw[this,SD.out.pr j r hr];simp[hne]
 ·have:ou (aV D3 i none) U j r y=ou D3 U j r y:=by unfold ou;rw[aJ _ _ _ hne]
  rw[this,SD.out.rd U j r y hr hy,if_neg (fun e=>hne e.1)]
end
end
end Go.Proofs.YtammlljefhakmaaGreatDoor
