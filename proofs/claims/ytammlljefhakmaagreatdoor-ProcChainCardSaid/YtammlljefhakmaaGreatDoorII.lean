/- Helps of the proof. No condition. -/
import Derived.Test.YtammlljefhakmaaGreatDoorHT
import Derived.Test.YtammlljefhakmaaGreatDoorIE
import Derived.Test.YtammlljefhakmaaGreatDoorIF
import Derived.Test.YtammlljefhakmaaGreatDoorIH
namespace Go.Proofs.YtammlljefhakmaaGreatDoor
open Go.RowKit Go.Maps
set_option maxRecDepth 100000
section
section
variable {n q c c':Nat} {D D':Int→Option Sp} {Q Q':Nat→Nat} {Lb dO:List Nd} {P P':Int→Nat→Option Bool}
theorem J.shut(h:J n q c D Q Lb ig P)(id:Int)(hD:D id=none):J n q c D Q (fq Lb id) ig P:=by
 refine⟨h.pid,h.fit,h.one,h.cnt,h.perm,h.excl,fun i=>?_,h.tree.close id,h.sum,h.low⟩
 rw[←h.ko i]
 unfold fq
 split
 ·unfold aZ
  rw[bC (kC _ _),iG]
  by_cases e:i=id
  ·rw[if_pos e]
   have:=h.ko i
   rw[e,hD]at this
   rw[e]
   exact this.symm
  ·rw[if_neg e]
   cases hx:aD i Lb with
   |none=>rfl
   |some x=>simp only[Option.map_some,fP];split<;>rfl
 ·rfl
def qZ(i:Int)(L:List Nd):List Nd:=L.map fun x=>if x.1=i then(x.1,x.2.1,x.2.2.1,0)else x
theorem aaX(i d:Int)(L:List Nd):qZ i (L.map (gW i d))=qZ i L:=by
 unfold qZ
 rw[List.map_map]
 refine List.map_congr_left fun x _=>?_
 simp only[Function.comp,iV]
 unfold gW
 split<;>rfl
theorem Dt(i k:Int)(L:List Nd):qZ i (bI L i k)=qZ i L:=by
 unfold bI
 split
 ·exact aaX i _ L
 ·rfl
theorem Mj{i:Int}{L:List Nd}(hg:bR L)(hu:aZ L i=0):qZ i L=L:=by
 unfold qZ
 refine(List.map_congr_left (g:=id) fun x hx=>?_).trans (List.map_id L)
 show _=x
 split
 ·rename_i e
  unfold aZ at hu
  rw[←e,dI hg.up hx]at hu
  have h1:=hg.ok x hx
  dsimp only[MR]at h1
  have h2:x.2.2.2.toNat=0:=hu
  rw[show(0:Int)=x.2.2.2 by omega]
 ·rfl
end
section
variable {W0 w:World} {I:lK} {q c:Nat} {Q:Nat→Nat} {V:Nat→Nat→Int} {Lb:List Nd} {G:Int→Option Pc} {D:Int→Option Sp}
theorem dR.shut(h:dR W0 w I q c D Q V Lb G ig (PG G))(id:Int)(hG:G id=none){er:Int}(he:iy Lb id=er):
  Calls Tryz.prog 54 #[.pointer (some ⟨I.bb,0,none⟩), .int .i64 id] w fun e w'=>e= .returned (.int .i64 er)∧ay w w'∧dR W0 w' I q c D Q V (fq Lb id) G ig (PG G):=by
 obtain⟨W,Pb,k1,k2⟩:=h.bl
 refine(Zj k1.ko id he).mono fun e w' ⟨a,T⟩=>?_
 have k:=BL.goes k2 (k1.Qq T)
 exact⟨a,k.2,k.1,h.j.shut id (k2.none_ id hG)⟩
theorem dR.adS(h:dR W0 w I q c D Q V Lb G ig (PG G)){i:Int}{s:Pc}(hG:G i=some s):
  Calls Tryz.prog 53 #[.pointer (some ⟨I.ss,0,none⟩), .int .i64 i] w fun e w'=>e= .returned (.int .i64 0)∧ay w w'∧∃c' D' Q',dR W0 w' I q c' D' Q' V (qZ i Lb) (tT G i) ig (PG (tT G i))∧D' i=none∧∀j,j≠i→(D' j).isSome=(D j).isSome∧∀(U:Nat→Nat→Int) r y,r<1024→y<32→ou D' U j r y=ou D U j r y:=by
 obtain⟨F,hD⟩:=h.bl.TG hG
 refine(h.close hG hD).mono ?_
 rintro e w' ⟨rfl,hk,c',D',Q',dO,hst,⟨hn,a,b,rfl⟩,hs⟩
 have e1:bI (bI Lb i a) i b=qZ i Lb:=by
  rw[←Dt i a Lb,←Dt i b (bI Lb i a)]
  refine(Mj hst.j.tree.good ?_).symm
  have:=hst.j.ko i
  rw[hn]at this
  exact this
 rw[e1]at hst
 exact⟨rfl,hk,c',D',Q',hst,hn,fun j hj=>⟨(hs j hj).1,fun U r y hr hy=>((hs j hj).2 r hr).2 U y hy⟩⟩
theorem Mg.kw{W w:World}{tb sb:Nat}{X:bD}{L:List Int}{R:Nat→Nat}{S:Nat→Bool}(h:Mg W w tb sb X L R S)(k:Nat→Nat→Int):Mg W w tb sb { X with kw:=k } L R S:=
 ⟨h.own.kw k,h.lw,h.wd,h.box,h.iK,h.nt,h.ns,h.ne,h.low⟩
theorem BL.mem(h:BL W0 w I c Q V Lb G D):∃L,bT w I.X.mp I.X.fb I.n L∧Words L∧(∀f q,f<I.n→q<32→I.hi≤f→L.getD (f*32+q) 0=I.X.kw f q)∧∀w' L' kw',Puts w w' I.X.mp I.X.fb I.n L'→Words L'→(∀f q,f<I.hi→q<32→L'.getD (f*32+q) 0=L.getD (f*32+q) 0)→(∀f q,f<I.n→q<32→I.hi≤f→L'.getD (f*32+q) 0=kw' f q)→BL W0 w' { I with X:={ I.X with kw:=kw' } } c Q V Lb G D∧ay w w':=by
 obtain⟨W,Pb,k1,k2⟩:=h
 obtain⟨L,R,S,O,T,m1,m2,m3,m4,m5,m6,m7,m8⟩:=k1.sys.ex
 have hn:=k1.sys.hn
 refine⟨L,hn▸m1.own.st.mem,m1.wd,m8,fun w' L' kw' hp hw hl ho=>?_⟩
 subst m3
 have hlen:L'.length=I.n*32:=hp.st.len
 have g:=bM.puts (X:={ I.X with kw:=kw' }) hn (m1.kw kw') m2 m4 m5 m7 (V':=V) (hn▸hp) hlen hw (fun f q hf hq=>hl f q (m2.low f hf).2 hq) (fun f q hf hq h0=>by rw[hl f q (m7 f h0).2 hq];exact m6 f q hf hq h0) ho
 obtain⟨b1,b2⟩:=k1.Xw g.st g.only
 exact⟨⟨W,Pb,b1,k2⟩,b2⟩
theorem dR.far{w':World}{B:Nat→Prop}(h:dR W0 w I q c D Q V Lb G ig (PG G))(ho:Only w w' B)(hn:∀k,B k→W0.heap.size≤k)(hB:∀k,B k→wY w I k){fm':Nat→Option Obj}(hf:∀k o,fm' k=some o→w'.heap[k]? =some o∧tL o=true∧(I.fm k).isSome=true):dR W0 w' { I with fm:=fm' } q c D Q V Lb G ig (PG G):=by
 obtain⟨⟨W,Pb,k1,k2⟩,hj⟩:=h
 exact⟨⟨W,Pb,k1.far ho hn hB hf,k2⟩,hj⟩
theorem dR.kwS{kw':Nat→Nat→Int}{w':World}(h:dR W0 w I q c D Q V Lb G ig (PG G))(k:BL W0 w' { I with X:={ I.X with kw:=kw' } } c Q V Lb G D):dR W0 w' { I with X:={ I.X with kw:=kw' } } q c D Q V Lb G ig (PG G):=⟨k,h.j⟩
end
end
section
structure mE where
 ps:Nat
 tb:Nat
 qb:Nat
 tr:Nat
 n:Int
 I:lK
def gV(J:mE):Array Value:=#[.pointer (some ⟨J.tb,0,none⟩), .pointer (some ⟨J.I.X.mp,0,none⟩), .int .i64 (J.tr:Int), .pointer (some ⟨J.I.bb,0,none⟩), .pointer (some ⟨J.I.ss,0,none⟩), .pointer (some ⟨J.qb,0,none⟩)]
abbrev Gx(J:mE):Value:= .agg (gV J)
abbrev lK.re(I:lK)(fm:Nat→Option Obj)(kw:Nat→Nat→Int):lK:={ I with fm:=fm,X:={ I.X with kw:=kw } }
def kQ(J:mE)(p:Int):Nat:=J.tr+(p-1).toNat/3
def kR(p:Int):Nat:=(p-1).toNat%3
def yV(rg:Int→Nat→Int)(p:Int)(R:List Int):Int→Nat→Int:=fun j k=>if j=p then R.getD k 0 else rg j k
def Je(rg:Int→Nat→Int)(p:Int):List Int:=[rg p 0,rg p 1,rg p 2,rg p 3,rg p 4,rg p 5,rg p 6,rg p 7]
theorem QE(rg:Int→Nat→Int)(p:Int){k:Nat}(hk:k<8):(Je rg p).getD k 0=rg p k:=by
 rcases(show k=0∨k=1∨k=2∨k=3∨k=4∨k=5∨k=6∨k=7 by omega)with rfl|rfl|rfl|rfl|rfl|rfl|rfl|rfl<;>rfl
theorem aaY(rg:Int→Nat→Int)(p:Int){R:List Int}(hR:R.length=8):Je (yV rg p R) p=R:=by
 refine J7 (by simp[Je,hR]) fun k hk=>?_
 have hk:k<8:=by simpa[Je]using hk
 rw[QE _ _ hk]
 unfold yV
 rw[if_pos rfl]
structure afH(J:mE):Prop where
 lo:J.I.hi≤J.tr
 hi:∀p,1≤p→p≤J.n→kQ J p<J.I.n
structure dK(W0 w:World)(J:mE)(q c:Nat)(D:Int→Option Sp)(T:List Nd)(Qu:List Int)(Lb:List Nd)(G:Int→Option Pc)(rg:Int→Nat→Int):Prop where
 ex:∃fm kw m P Q V,dR W0 w (J.I.re fm kw) q c D Q V Lb G ig (PG G)∧TabAt w J.tb m J.n P T∧(fm m).isSome=true∧(∀k,k=J.tb∨tB m P k→W0.heap.size≤k)∧∀p k,1≤p→p≤J.n→k<8→kw (kQ J p) (10*kR p+k)=rg p k
 yX:xI w J.qb Qu
 nq:W0.heap.size≤J.qb
 tr:afH J
section
variable {W0 w:World} {J:mE} {q c:Nat} {D:Int→Option Sp} {T:List Nd} {Qu:List Int} {Lb:List Nd} {G:Int→Option Pc} {rg:Int→Nat→Int}
theorem dK.step{w':World}(h:dK W0 w J q c D T Qu Lb G rg)(hb:Below w.heap.size w w'):dK W0 w' J q c D T Qu Lb G rg:=by
 obtain⟨fm,kw,m,P,Q,V,h1,h2,h3⟩:=h.ex
 exact⟨⟨fm,kw,m,P,Q,V,h1.step hb,h2.later hb,h3⟩,h.yX.below hb,h.nq,h.tr⟩
theorem dK.below(h:dK W0 w J q c D T Qu Lb G rg):Below W0.heap.size W0 w:=by
 obtain⟨fm,kw,m,P,Q,V,h1,_⟩:=h.ex
 exact h1.bl.below
theorem dK.good(h:dK W0 w J q c D T Qu Lb G rg):aL J.n T:=by
 obtain⟨fm,kw,m,P,Q,V,_,h2,_⟩:=h.ex
 exact h2.good
theorem dR.frozen{I:lK}{Q:Nat→Nat}{V:Nat→Nat→Int}(h:dR W0 w I q c D Q V Lb G ig (PG G)){m:Nat}(hm:(I.fm m).isSome=true):w.heap[m]? =I.fm m:=by
 obtain⟨W,Pb,k,_⟩:=h.bl
 obtain⟨o,ho⟩:=Option.isSome_iff_exists.1 hm
 rw[ho]
 exact(k.fm.at_ m o ho).1
theorem TabAt.keep{w':World}{b m:Nat}{n:Int}{P:Pt}{L:List Nd}(h:TabAt w b m n P L)(hk:ay w w')(hm:w'.heap[m]? =w.heap[m]?):TabAt w' b m n P L:=by
 refine h.kept ((hk.box h.box (by decide)).trans h.box.symm) fun k hb=>?_
 rcases hb with rfl|⟨i,hi⟩
 ·exact hm
 ·obtain⟨x,_,hx⟩:=h.proc hi
  exact(hk.box hx (by decide)).trans hx.symm
theorem xI.keep{w':World}{b:Nat}{L:List Int}(h:xI w b L)(hk:ay w w'):xI w' b L:=by
 obtain⟨A,hd,r,B⟩:=h.ex
 exact⟨h.good,A,hd,r,B.len,B.top,B.many,hk.box B.box (by decide)⟩
theorem dK.Mk(h:dK W0 w J q c D T Qu Lb G rg):∃fm kw Q V,dR W0 w (J.I.re fm kw) q c D Q V Lb G ig (PG G)∧∀{w':World} {c':Nat} {D':Int→Option Sp} {Q':Nat→Nat} {V':Nat→Nat→Int} {dO:List Nd} {G':Int→Option Pc},dR W0 w' (J.I.re fm kw) q c' D' Q' V' dO G' ig (PG G')→ay w w'→dK W0 w' J q c' D' T Qu dO G' rg:=by
 obtain⟨fm,kw,m,P,Q,V,h1,h2,h3,h4,h5⟩:=h.ex
 exact⟨fm,kw,Q,V,h1,fun {w'} {c'} {D'} {Q'} {V'} {dO} {G'} k hk=>⟨⟨fm,kw,m,P,Q',V',k,h2.keep hk ((k.frozen h3).trans (h1.frozen h3).symm),h3,h4,h5⟩,h.yX.keep hk,h.nq,h.tr⟩⟩
theorem dK.byT(h:dK W0 w J q c D T Qu Lb G rg):∃m P,TabAt w J.tb m J.n P T∧∀{w':World} {T':List Nd},Ru w w' J.tb m J.n P T'→dK W0 w' J q c D T' Qu Lb G rg:=by
 obtain⟨fm,kw,m,P,Q,V,h1,h2,h3,h4,h5⟩:=h.ex
 refine⟨m,P,h2,fun {w' T'} t=>?_⟩
 obtain⟨⟨P',t1,t2⟩,t3⟩:=t
 refine⟨⟨fun k=>if k=m then w'.heap[m]? else none,kw,m,P',Q,V,h1.far t3 (fun k hk=>h4 k (Or.inr hk)) (fun k hk=>?_) fun k o hk=>?_,t1,?_,fun k hk=>?_,h5⟩,?_,h.nq,h.tr⟩
 ·rcases hk with rfl|⟨i,hi⟩
  ·obtain⟨es,ck,hm⟩:=h2.map.isMap
   exact⟨_,hm,fun t e=>(by simp[kindOf]at e),fun _=>h3⟩
  ·obtain⟨x,_,hx⟩:=h2.proc hi
   exact wY.cells hx (by decide)
 ·by_cases e:k=m
  ·subst e
   rw[if_pos rfl]at hk
   refine⟨hk,?_,h3⟩
   obtain⟨es,ck,hm⟩:=t1.map.isMap
   rw[hm]at hk
   cases hk;rfl
  ·rw[if_neg e]at hk;cases hk
 ·obtain⟨es,ck,hm⟩:=t1.map.isMap
  show(if m=m then w'.heap[m]? else none).isSome=true
  rw[if_pos rfl,hm];rfl
 ·rcases hk with e|e|⟨i,hi⟩
  ·exact h4 k (Or.inl e)
  ·exact h4 k (Or.inr (Or.inl e))
  ·rcases t2 i k hi with e|e
   ·exact h4 k (Or.inr (Or.inr ⟨i,e⟩))
   ·exact Nat.le_trans h.below.size e
 ·obtain⟨A,hd,r,B⟩:=h.yX.ex
  refine⟨h.yX.good,A,hd,r,B.len,B.top,B.many,t3.kept B.box fun hk=>?_⟩
  rcases hk with e|⟨i,hi⟩
  ·obtain⟨es,ck,hm⟩:=h2.map.isMap
   have:=B.box
   rw[e,hm]at this;cases this
  ·obtain⟨x,_,hx⟩:=h2.proc hi
   have:=B.box
   rw[hx]at this
   exact absurd (show(some 76:Option Nat)=some 166 from congrArg kindOf (Option.some.inj this)) (by decide)
theorem dK.byQ(h:dK W0 w J q c D T Qu Lb G rg){w':World}{DX:List Int}(t:Bw w w' J.qb DX):dK W0 w' J q c D T DX Lb G rg:=by
 obtain⟨fm,kw,m,P,Q,V,h1,h2,h3,h4,h5⟩:=h.ex
 obtain⟨cs,hq⟩:=h.yX.block
 have ho:Only w w' (fun k=>k=J.qb):=Only.grown t.grown rfl
 have key:∀{k:Nat} {o:Obj},w.heap[k]? =some o→kindOf o≠some 166→k≠J.qb:=fun {k o} hk hne e=>by
  rw[e,hq]at hk
  cases hk
  exact hne rfl
 have ht:TabAt w' J.tb m J.n P T:=h2.kept (ho.block _ (lt_of_block h2.box) (key h2.box (by simp only[Zl,kindOf];decide))) fun k hk=>ho.block _ (h2.lt hk) (by
  rcases hk with rfl|⟨i,hi⟩
  ·obtain⟨es,ck,hm⟩:=h2.map.isMap
   exact key hm (by simp[kindOf])
  ·obtain⟨x,_,hx⟩:=h2.proc hi
   exact key hx (by simp only[DT,kindOf];decide))
 have hf:∀k o,fm k=some o→w'.heap[k]? =some o∧tL o=true∧(fm k).isSome=true:=fun k o hk=>by
  have e1:=h1.frozen (m:=k) (by show(fm k).isSome=true;rw[hk];rfl)
  rw[show(J.I.re fm kw).fm k=fm k from rfl,hk]at e1
  obtain⟨W,Pb,k1,_⟩:=h1.bl
  obtain⟨_,hm⟩:=k1.fm.at_ k o hk
  refine⟨ho.kept e1 (key e1 ?_),hm,by rw[hk];rfl⟩
  cases o<;>simp_all [tL,kindOf]
 exact⟨⟨fm,kw,m,P,Q,V,h1.far ho (fun k hk=>by rw[hk];exact h.nq) (fun k hk=>by rw[hk];exact wY.cells hq (by decide)) hf,ht,h3,h4,h5⟩,t.st,h.nq,h.tr⟩
theorem aaZ{J:mE}{p j:Int}(hp:1≤p)(hj:1≤j)(h:kQ J p=kQ J j)(hs:kR p=kR j):p=j:=by
 unfold kQ at h
 unfold kR at hs
 omega
theorem dK.byR(h:dK W0 w J q c D T Qu Lb G rg){p:Int}(hp:1≤p)(hn:p≤J.n):∃L,bT w J.I.X.mp J.I.X.fb J.I.n L∧(∀k,k<10→0≤(oo L (kQ J p*32+10*kR p)).getD k 0∧(oo L (kQ J p*32+10*kR p)).getD k 0<4294967296)∧(oo L (kQ J p*32+10*kR p)).take 8=Je rg p∧∀{w':World} {R:List Int},R.length=10→(∀k,0≤R.getD k 0∧R.getD k 0<4294967296)→Puts w w' J.I.X.mp J.I.X.fb J.I.n (rW L (kQ J p*32+10*kR p) R 10)→dK W0 w' J q c D T Qu Lb G (yV rg p (R.take 8))∧ay w w':=by
 obtain⟨fm,kw,m,P,Q,V,h1,h2,h3,h4,h5⟩:=h.ex
 obtain⟨L,m1,m2,m3,m4⟩:=h1.bl.mem
 have hf:=h.tr.hi p hp hn
 have hlo:=h.tr.lo
 have hs:kR p<3:=by unfold kR;omega
 have hge:J.I.hi≤kQ J p:=by unfold kQ;omega
 have hlen:L.length=J.I.n*32:=m1.len
 have hin:kQ J p*32+10*kR p+10≤L.length:=by omega
 refine⟨L,m1,fun k hk=>?_,?_,fun {w' R} hR hw hP=>?_⟩
 ·rw[yU _ _ _ hk];exact m2 _
 ·refine J7 (by simp[j4,Je]) fun k hk=>?_
  have hk:k<8:=by simpa[j4]using hk
  rw[qY _ _ hk,yU _ _ _ (by omega),QE _ _ hk,←h5 p k hp hn hk,Nat.add_assoc]
  exact m3 (kQ J p) (10*kR p+k) hf (by omega) hge
 ·have hget:∀f y,y<32→(rW L (kQ J p*32+10*kR p) R 10).getD (f*32+y) 0=if f=kQ J p∧10*kR p≤y∧y<10*kR p+10 then R.getD (y-10*kR p) 0 else L.getD (f*32+y) 0:=fun f y hy=>by
   rw[uS _ _ _ _ _ hin]
   by_cases e:f=kQ J p∧10*kR p≤y∧y<10*kR p+10
   ·rw[if_pos e,if_pos (by omega),show f*32+y-(kQ J p*32+10*kR p)=y-10*kR p by omega]
   ·rw[if_neg e,if_neg (by omega)]
  obtain⟨b1,b2⟩:=m4 w' _ (fun f y=>(rW L (kQ J p*32+10*kR p) R 10).getD (f*32+y) 0) hP (fun i=>by
   rw[uS _ _ _ _ _ hin]
   split
   ·exact hw _
   ·exact m2 i) (fun f y hfh hy=>by rw[hget f y hy,if_neg (by have:f<J.I.hi:=hfh;omega)]) (fun _ _ _ _ _=>rfl)
  refine⟨⟨⟨fm,fun f y=>(rW L (kQ J p*32+10*kR p) R 10).getD (f*32+y) 0,m,P,Q,V,h1.kwS b1,h2.keep b2 (((h1.kwS b1).frozen h3).trans (h1.frozen h3).symm),h3,h4,fun j k hj hjn hk=>?_⟩,h.yX.keep b2,h.nq,h.tr⟩,b2⟩
  have hsj:kR j<3:=by unfold kR;omega
  show(rW L (kQ J p*32+10*kR p) R 10).getD (kQ J j*32+(10*kR j+k)) 0= _
  rw[hget (kQ J j) (10*kR j+k) (by omega)]
  unfold yV
  by_cases e:j=p
  ·subst e
   rw[if_pos rfl,if_pos ⟨rfl,by omega,by omega⟩,show 10*kR j+k-10*kR j=k by omega,qY _ _ hk]
  ·have hne:¬(kQ J j=kQ J p∧kR j=kR p):=fun hh=>e (aaZ hj hp hh.1 hh.2)
   rw[if_neg e,if_neg (by omega),←h5 j k hj hjn hk]
   have hfj:=h.tr.hi j hj hjn
   have hgj:J.I.hi≤kQ J j:=by unfold kQ;omega
   exact m3 (kQ J j) (10*kR j+k) hfj (by omega) hgj
end
end
section
structure xB(t:TypeId)(n:Nat):Prop where
 under:∃d,Tryz.prog.underlying t=some d∧d.isRow=true
 size:(Tryz.prog.info? t).map (·.size)=some n
theorem iD:xB 37 6:=⟨⟨_,Tryz.underlying37,rfl⟩,by kernel_rfl⟩
theorem tV:xB 76 4:=⟨⟨_,Tryz.underlying76,rfl⟩,by kernel_rfl⟩
theorem vW:xB 46 8:=⟨⟨_,Tryz.underlying46,rfl⟩,by kernel_rfl⟩
theorem ahS:xB 174 10:=⟨⟨_,Tryz.underlying174,rfl⟩,by kernel_rfl⟩
section
variable {ops:Array Oper} {rest:List Oper} {op:Oper} {a:Act} {w:World} {Q:Exit→Act→World→Prop} {t t':TypeId} {n:Nat}
theorem bP(T:xB t n)(hgd:op.guard=none)(x:Operand)(ho:op.op= .load t x)(b:Nat)(hx:a.eval x= .pointer (some ⟨b,0,none⟩))(cs:Array Value)(hg:w.heap[b]? =some (.cells cs t' (0,0)))(hn:cs.size=n)
  (h:wpList Tryz.prog ops Q rest (a.put op.dst (.agg cs)) w):wpList Tryz.prog ops Q (op::rest) a w:=by
 obtain⟨⟨d,h1,h2⟩,hs⟩:=T
 refine wpList_load_row hgd t x ho b hx t' cs (0,0) d hg h1 ?_ (by rw[hs,hn]) h
 cases d<;>simp_all
theorem aH(T:xB t n)(hgd:op.guard=none)(x y:Operand)(ho:op.op= .store t x y)(b:Nat)(cs:Array Value)(hx:a.eval x= .pointer (some ⟨b,0,none⟩))(hy:a.eval y= .agg cs)(old:Array Value)(hg:w.heap[b]? =some (.cells old t' (0,0)))(hn:cs.size=n)(hold:old.size=n)(h1:cs.all (·.oneCell')=true)
  (h:wpList Tryz.prog ops Q rest (a.put op.dst undef) (w.setRow b cs)):wpList Tryz.prog ops Q (op::rest) a w:=
 wpList_store_row hgd t x y ho b cs hx hy t' old hg (by rw[T.size,hn]) (by rw[hn,hold]) h1 h
end
theorem Gy{t t':TypeId}{n:Nat}(T:xB t n)(w:World)(b:Nat)(cs:Array Value)(hg:w.heap[b]? =some (.cells cs t' (0,0)))(hn:cs.size=n):(loadVar t ⟨b,0,none⟩).run Tryz.prog w= .ok (.agg cs) w:=by
 obtain⟨⟨d,h1,h2⟩,hs⟩:=T
 refine run_loadVar_row w b t' t cs (0,0) d hg h1 ?_ (by rw[hs,hn])
 cases d<;>simp_all
theorem adT{t t':TypeId}{n:Nat}(T:xB t n){fn:Func}{p:Tmp}(h:fn.results=#[.cell p t])(tmps:Array Value)(w:World)(b:Nat)(cs:Array Value)(hp:tmps.getD p undef= .pointer (some ⟨b,0,none⟩))(hg:w.heap[b]? =some (.cells cs t' (0,0)))(hn:cs.size=n):(results fn tmps).run Tryz.prog w= .ok (.agg cs) w:=by
 have hp':tmps[p]?.getD undef= .pointer (some ⟨b,0,none⟩):=by simpa using hp
 simp[results,h,hp',asAddr,Gy T w b cs hg hn]
theorem zU{t t':TypeId}{n:Nat}(T:xB t n){fn:Func}{p q:Tmp}(h:fn.results=#[.cell p t, .tmp q])(tmps:Array Value)(w:World)(b:Nat)(cs:Array Value)(v:Value)(hp:tmps.getD p undef= .pointer (some ⟨b,0,none⟩))(hq:tmps.getD q undef=v)(hg:w.heap[b]? =some (.cells cs t' (0,0)))(hn:cs.size=n):(results fn tmps).run Tryz.prog w= .ok (.tuple #[.agg cs,v]) w:=by
 have hp':tmps[p]?.getD undef= .pointer (some ⟨b,0,none⟩):=by simpa using hp
 have hq':tmps[q]?.getD undef=v:=by simpa using hq
 simp[results,h,hp',hq',asAddr,Gy T w b cs hg hn]
theorem dA{w:World}{J:mE}{b:Nat}{t:TypeId}{z:Nat×Nat}(h:w.heap[b]? =some (.cells (gV J) t z)):w.cell? ⟨b,0,none⟩=some (.pointer (some ⟨J.tb,0,none⟩))∧w.cell? ⟨b,1,none⟩=some (.pointer (some ⟨J.I.X.mp,0,none⟩))∧w.cell? ⟨b,2,none⟩=some (.int .i64 (J.tr:Int))∧w.cell? ⟨b,3,none⟩=some (.pointer (some ⟨J.I.bb,0,none⟩))∧w.cell? ⟨b,4,none⟩=some (.pointer (some ⟨J.I.ss,0,none⟩))∧w.cell? ⟨b,5,none⟩=some (.pointer (some ⟨J.qb,0,none⟩)):=by
 have:=fun i=>cell_of_row w b i _ _ _ h
 exact⟨this 0,this 1,this 2,this 3,this 4,this 5⟩
theorem Gz(J:mE):(gV J).all (·.oneCell')=true:=by simp[gV,Value.oneCell']
theorem oq{w:World}{J:mE}(h:w.heap[J.ps]? =some (.cells (gV J) 39 (0,0))):Calls Tryz.prog 39 #[.pointer (some ⟨J.ps,0,none⟩)] w fun e w'=>e= .returned (Gx J)∧Below w.heap.size w w':=by
 have H:=Lib.hid h
 obtain⟨c0,c1,c2,c3,c4,c5⟩:=dA h
 clear h
 go_enter Tryz.func39,Tryz.ntmps39
 have X0:=Lib.hid (below_block (Below.alloc (Below.refl w.heap.size w) (Nat.le_refl _) (.cells #[.pointer none, .pointer none, .int .i64 0, .pointer none, .pointer none, .pointer none] 37)) H.out)
 have X1:=Lib.hid (heap_alloc_new w (.cells #[.pointer none, .pointer none, .int .i64 0, .pointer none, .pointer none, .pointer none] 37))
 go_wp2_with(first|(refine bP iD rfl (.tmp 8) rfl J.ps rfl (gV J) X0.out rfl ?_)|(refine aH iD rfl (.tmp 2) (.tmp 9) rfl w.heap.size (gV J) rfl rfl _ X1.out rfl rfl (Gz J) ?_))
 have hb:=below_setRow ((Below.refl w.heap.size w).alloc (Nat.le_refl _) (.cells #[.pointer none, .pointer none, .int .i64 0, .pointer none, .pointer none, .pointer none] 37)) (Nat.le_refl _) (gV J)
 exact bodyPost_ret (v:=Gx J) (adT iD Tryz.results39 _ _ w.heap.size (gV J) rfl (setRow_heap _ _ _ _ _ _ X1.out) rfl) rfl ⟨rfl,hb⟩
theorem bU{k g:Nat}(w:World)(cs:Array Value)(h:k≠g){o:Obj}(hk:w.heap[k]? =some o):(w.setRow g cs).heap[k]? =some o:=by
 simp only[World.setRow,Array.getElem?_modify]
 rw[if_neg (fun e=>h e.symm)]
 exact hk
def mO(q:Int):Bool:=decide (1≤q)&&decide (q≤256)
theorem jM(q:Int)(w:World){b:Bool}(hb:mO q=b):Calls Tryz.prog 68 #[.int .i64 q] w fun e w'=>e= .returned (.bool b)∧w'=w:=by
 subst hb
 unfold mO
 by_cases h1:1≤q
 ·by_cases h2:q≤256
  ·rw[decide_eq_true h1,decide_eq_true h2]
   go_enter Tryz.func68,Tryz.ntmps68
   go_wp2
   go_ret
   exact⟨rfl,rfl⟩
  ·rw[decide_eq_true h1,decide_eq_false h2]
   go_enter Tryz.func68,Tryz.ntmps68
   go_wp2
   go_ret
   exact⟨rfl,rfl⟩
 ·rw[decide_eq_false h1]
  go_enter Tryz.func68,Tryz.ntmps68
  go_wp2
  go_ret
  exact⟨rfl,rfl⟩
def rP(x:Nd):Array Value:=#[.int .i64 x.1, .int .i64 x.2.1, .int .i64 x.2.2.1, .int .u32 x.2.2.2]
theorem rQ(x:Nd):(rP x).all (·.oneCell')=true:=by simp[rP,Value.oneCell']
def fA(T:List Nd)(pid:Int)(may:Bool):Int:=if may=true then(match aD pid T with|none=>4|some _=>0)else 2
def lN(T:List Nd)(pid:Int)(may:Bool):Nd:=if fA T pid may=0 then JE T pid else(0,0,0,0)
theorem Yk{w:World}{J:mE}{m:Nat}{n:Int}{P:Pt}{T:List Nd}(h:TabAt w J.tb m n P T)(pid:Int)(hi:I64 pid)(may:Bool):
  Calls Tryz.prog 49 #[Gx J, .int .i64 pid, .bool may] w fun e w'=>e= .returned (.tuple #[.agg (rP (lN T pid may)), .int .i64 (fA T pid may)])∧Below w.heap.size w w':=by
 have B2:=Lib.hid (ak w (.cells (gV J) 37) (.cells #[.int .i64 0, .int .i64 0, .int .i64 0, .int .u32 0] 76))
 have X1:=Lib.hid (heap_alloc2_old w (.cells (gV J) 37) (.cells #[.int .i64 0, .int .i64 0, .int .i64 0, .int .u32 0] 76))
 have X2:=Lib.hid (heap_alloc2_new w (.cells (gV J) 37) (.cells #[.int .i64 0, .int .i64 0, .int .i64 0, .int .u32 0] 76))
 have GT:=Lib.hid (Zm (h.later B2.out) hi)
 obtain⟨c0, -⟩:=dA X1.out
 cases may with
 |false=>
  clear GT h
  go_enter Tryz.func49,Tryz.ntmps49
  go_wp2_with fail
  exact bodyPost_ret (v:= .tuple #[.agg (rP (0,0,0,0)), .int .i64 2]) (zU tV Tryz.results49 _ _ (w.heap.size+1) (rP (0,0,0,0)) _ rfl rfl X2.out rfl) rfl ⟨rfl,B2.out⟩
 | true=>
  have Z:=fun V:World=>heap_alloc_new V (.cells #[.int .i64 0, .int .i64 0, .int .i64 0, .int .u32 0] 76)
  have EX:∃er is,fA T pid true=er∧(aD pid T).isSome=is∧(er=4∧is=false∧lN T pid true=(0,0,0,0)∨er=0∧is=true∧lN T pid true=JE T pid):=by
   unfold lN fA
   cases hT:aD pid T with
   |none=>exact⟨4,false,rfl,rfl,Or.inl ⟨rfl,rfl,rfl⟩⟩
   |some x=>exact⟨0,true,rfl,rfl,Or.inr ⟨rfl,rfl,rfl⟩⟩
  obtain⟨er,is,e1,e2,e3⟩:=EX
  rw[e2]at GT
  rw[e1]
  generalize JE T pid=g at GT e3
  generalize lN T pid true=x at e3 ⊢
  clear e1 e2 h
  rcases e3 with⟨rfl,rfl,rfl⟩|⟨rfl,rfl,rfl⟩
  all_goals
   go_enter Tryz.func49,Tryz.ntmps49
   go_wp2_with fail
   refine GT.out.mono ?_
   rintro e w3 ⟨rfl,hb⟩
   have B3:=Lib.hid (B2.out.trans (hb.mono B2.out.size))
   have X3:=Lib.hid (below_block (hb.alloc hb.size (.cells #[.int .i64 0, .int .i64 0, .int .i64 0, .int .u32 0] 76)) X2.out)
   have Y3:=Lib.hid (show w.heap.size+1≠w3.heap.size by have:=lt_of_block X2.out;have:=hb.size;omega)
   clear hb
  ·go_wp2_with(first|(refine aH tV rfl (.tmp 8) (.tmp 24) rfl w3.heap.size (rP g) rfl rfl _ (Z w3) rfl rfl (rQ g) ?_)|(refine aH tV rfl (.tmp 6) (.tmp 28) rfl (w.heap.size+1) (rP (0,0,0,0)) rfl rfl _ (bU _ _ Y3.out X3.out) rfl rfl (rQ _) ?_))
   exact bodyPost_ret (v:= .tuple #[.agg (rP (0,0,0,0)), .int .i64 4]) (zU tV Tryz.results49 _ _ (w.heap.size+1) (rP (0,0,0,0)) _ rfl rfl (setRow_heap _ _ _ _ _ _ (bU _ _ Y3.out X3.out)) rfl) rfl ⟨rfl,below_setRow (below_setRow (B3.out.alloc B3.out.size _) B3.out.size _) (Nat.le_succ _) _⟩
  ·go_wp2_with(first|(refine aH tV rfl (.tmp 8) (.tmp 24) rfl w3.heap.size (rP x) rfl rfl _ (Z w3) rfl rfl (rQ x) ?_)|(refine bP tV rfl (.tmp 8) rfl w3.heap.size rfl (rP x) (setRow_heap _ _ _ _ _ _ (Z w3)) rfl ?_)|(refine aH tV rfl (.tmp 6) (.tmp 29) rfl (w.heap.size+1) (rP x) rfl rfl _ (bU _ _ Y3.out X3.out) rfl rfl (rQ _) ?_))
   exact bodyPost_ret (v:= .tuple #[.agg (rP x), .int .i64 0]) (zU tV Tryz.results49 _ _ (w.heap.size+1) (rP x) _ rfl rfl (setRow_heap _ _ _ _ _ _ (bU _ _ Y3.out X3.out)) rfl) rfl ⟨rfl,below_setRow (below_setRow (B3.out.alloc B3.out.size _) B3.out.size _) (Nat.le_succ _) _⟩
end
section
theorem qw(R:List Int)(h:R.length=8):(ah R).size=8:=by simp[ah,h]
section
variable {ops:Array Oper} {rest:List Oper} {op:Oper} {a:Act} {w:World} {Q:Exit→Act→World→Prop}
theorem xC(hgd:op.guard=none)(x:Operand)(ho:op.op= .build 174 #[(0,x)])(R:List Int)(hR:R.length=8)
  (hx:a.eval x= .agg (ah R))
  (h:wpList Tryz.prog ops Q rest (a.put op.dst (.agg (ah (R++[0,0])))) w):wpList Tryz.prog ops Q (op::rest) a w:=by
 match R,hR with
 |[t0,t1,t2,t3,t4,t5,t6,t7],_=>
  have hb:(Tryz.prog.built 174 [(0, .agg (ah [t0,t1,t2,t3,t4,t5,t6,t7]))])=some (ah [t0,t1,t2,t3,t4,t5,t6,t7,0,0]):=by kernel_rfl
  have e:(Array.map (fun g:Nat×Operand=>(g.1,a.eval g.2)) #[(0,x)]).toList=[(0, .agg (ah [t0,t1,t2,t3,t4,t5,t6,t7]))]:=by simp[hx]
  refine wpList_build hgd 174 _ ho (by rw[e,hb];rfl) ?_
  rw[e,hb]
  exact h
end
theorem GH(J:mE){p:Int}(hp:1≤p)(h8:p≤8)(ht:J.tr≤2000)(w:World):Calls Tryz.prog 103 #[Gx J, .int .i64 p] w fun e w'=>e= .returned (.tuple #[.int .i64 (kQ J p:Int), .int .i64 (kR p:Int)])∧Below w.heap.size w w':=by
 have X1:=Lib.hid (heap_alloc_new w (.cells (gV J) 37))
 have B1:=Lib.hid (Below.alloc (Below.refl w.heap.size w) (Nat.le_refl _) (.cells (gV J) 37))
 obtain⟨-, -,c2, -⟩:=dA X1.out
 obtain⟨a,ha⟩:∃a:Int,a=(J.tr:Int):=⟨_,rfl⟩
 have A:=Lib.hid ha
 rw[←ha]at c2
 have b0: -9223372036854775808≤a+0:=by omega
 have b1:a+0≤9223372036854775807:=by omega
 have b2: -9223372036854775808≤a+1:=by omega
 have b3:a+1≤9223372036854775807:=by omega
 have b4: -9223372036854775808≤a+2:=by omega
 have b5:a+2≤9223372036854775807:=by omega
 clear ha
 rcases ads ⟨hp,h8⟩with rfl|rfl|rfl|rfl|rfl|rfl|rfl|rfl
 all_goals
  go_enter Tryz.func103,Tryz.ntmps103
  go_wp2
  go_ret2
  refine⟨?_,B1.out⟩
  simp[kQ,kR,A.out]
theorem QG{J:mE}{p:Int}{n:Nat}(hf:kQ J p<n):j5 n (kQ J p:Int) 0:=by unfold j5;omega
theorem Yl(p:Int):kR p<3:=by unfold kR;omega
theorem Ym(J:mE)(p:Int):idx (kQ J p:Int) ((10*kR p:Nat):Int)=kQ J p*32+10*kR p:=by unfold idx;omega
set_option maxHeartbeats 2000000 in
theorem Yn{w:World}{J:mE}{fb n:Nat}{L:List Int}(hm:bT w J.I.X.mp fb n L){p:Int}(hp:1≤p)(h8:p≤8)(hf:kQ J p<n)(ht:J.tr≤2000):
  Calls Tryz.prog 50 #[Gx J, .int .i64 p] w fun e w'=>e= .returned (.tuple #[.agg (ah ((oo L (kQ J p*32+10*kR p)).take 8)), .int .i64 0])∧Below w.heap.size w w':=by
 have hz:=Yi
 have hz2:=Gw
 have B2:=Lib.hid (ak w (.cells (gV J) 37) (.cells (ah z8) 46))
 have X1:=Lib.hid (heap_alloc2_old w (.cells (gV J) 37) (.cells (ah z8) 46))
 have X2:=Lib.hid (heap_alloc2_new w (.cells (gV J) 37) (.cells (ah z8) 46))
 have PL:=Lib.hid (fun V=>GH J hp h8 ht V)
 have LD:=Lib.hid (fun V (hb:Below w.heap.size w V)=>aaW J.I.X.mp fb n (kR p) (10*kR p) L (kQ J p:Int) V (hm.below hb) (QG hf) (Yl p) rfl)
 rw[Ym]at LD
 generalize hT:oo L (kQ J p*32+10*kR p)=T at LD ⊢
 have LT:Hid (T.length=10):=Lib.hid (by rw[←hT,j4])
 clear hm hT
 go_enter Tryz.func50,Tryz.ntmps50
 go_wp2_with(refine bP iD rfl (.tmp 2) rfl w.heap.size rfl (gV J) X1.out rfl ?_)
 refine(PL.out _).mono ?_
 rintro e w3 ⟨rfl,hb⟩
 have B3:=Lib.hid (B2.out.trans (hb.mono B2.out.size))
 have X3:=Lib.hid (below_block hb X1.out)
 have Y3:=Lib.hid (below_block hb X2.out)
 obtain⟨-,c1, -⟩:=dA X3.out
 clear hb
 go_wp2_with fail
 refine(LD.out w3 B3.out).mono ?_
 rintro e w4 ⟨rfl,hb⟩
 have B4:=Lib.hid (B3.out.trans (hb.mono B3.out.size))
 have Y4:=Lib.hid (below_block (hb.alloc hb.size (.cells (ah SG) 174)) Y3.out)
 have Z4:=Lib.hid (heap_alloc_new w4 (.cells (ah SG) 174))
 have N4:=Lib.hid (show w.heap.size+1≠w4.heap.size by have:=lt_of_block Y3.out;have:=hb.size;omega)
 clear hb
 go_wp2_with(first|(refine aH ahS rfl (.tmp 8) (.tmp 22) rfl w4.heap.size (ah T) rfl rfl _ Z4.out (by rw[dw,LT.out]) rfl (fJ T) ?_)|(refine qp rfl (.tmp 24) rfl w4.heap.size T 174 rfl (setRow_heap _ _ _ _ _ _ Z4.out) LT.out ?_)|(refine aH vW rfl (.tmp 4) (.tmp 25) rfl (w.heap.size+1) (ah (T.take 8)) rfl rfl _ (bU _ _ N4.out Y4.out) (by rw[dw];simp[LT.out]) rfl (fJ _) ?_))
 exact bodyPost_ret (v:= .tuple #[.agg (ah (T.take 8)), .int .i64 0]) (zU vW Tryz.results50 _ _ (w.heap.size+1) (ah (T.take 8)) _ rfl rfl (setRow_heap _ _ _ _ _ _ (bU _ _ N4.out Y4.out)) (by rw[dw];simp[LT.out])) rfl ⟨rfl,below_setRow (below_setRow (B4.out.alloc B4.out.size _) B4.out.size _) (Nat.le_succ _) _⟩
set_option maxHeartbeats 2000000 in
theorem Ml{w:World}{J:mE}{fb n:Nat}{L:List Int}(hm:bT w J.I.X.mp fb n L){p:Int}(hp:1≤p)(h8:p≤8)(hf:kQ J p<n)(ht:J.tr≤2000)(R:List Int)(hR:R.length=8):
  Calls Tryz.prog 98 #[Gx J, .int .i64 p, .agg (ah R)] w fun e w'=>e= .returned (.int .i64 0)∧Puts w w' J.I.X.mp fb n (rW L (kQ J p*32+10*kR p) (R++[0,0]) 10):=by
 have B2:=Lib.hid (ak w (.cells (gV J) 37) (.cells (ah R) 46))
 have X1:=Lib.hid (heap_alloc2_old w (.cells (gV J) 37) (.cells (ah R) 46))
 have X2:=Lib.hid (heap_alloc2_new w (.cells (gV J) 37) (.cells (ah R) 46))
 have PL:=Lib.hid (fun V=>GH J hp h8 ht V)
 have SV:=Lib.hid (fun V (hb:Below w.heap.size w V)=>aaV J.I.X.mp fb n (kR p) (10*kR p) L (kQ J p:Int) (R++[0,0]) V (by simp[hR]) (hm.below hb) (QG hf) (Yl p) rfl)
 rw[Ym]at SV
 have LT:=Lib.hid hR
 clear hm hR
 go_enter Tryz.func98,Tryz.ntmps98
 go_wp2_with(refine bP iD rfl (.tmp 3) rfl w.heap.size rfl (gV J) X1.out rfl ?_)
 refine(PL.out _).mono ?_
 rintro e w3 ⟨rfl,hb⟩
 have B3:=Lib.hid (B2.out.trans (hb.mono B2.out.size))
 have X3:=Lib.hid (below_block hb X1.out)
 have Y3:=Lib.hid (below_block hb X2.out)
 obtain⟨-,c1, -⟩:=dA X3.out
 clear hb
 go_wp2_with(first|(refine bP vW rfl (.tmp 5) rfl (w.heap.size+1) rfl (ah R) Y3.out (qw R LT.out) ?_)|(refine xC rfl (.tmp 19) rfl R LT.out rfl ?_))
 refine(SV.out w3 B3.out).mono ?_
 rintro e w4 ⟨rfl,hp⟩
 have P4:=Lib.hid (hp.ahead B3.out)
 clear hp
 go_wp2_with fail
 go_ret
 exact⟨rfl,P4.out⟩
end
section
abbrev vX(R:List Int):Obj:= .cells (ah R) 46 (0,0)
structure How(w:World)(k:Nat)(caps:Array Value)(f:List Int→List Int):Prop where
 ent:∀(args:Array Value) (W:World),(callFunc k args).run Tryz.prog W= .ok (.enter k args) W
 len:∀R:List Int,R.length=8→(f R).length=8
 wd:∀R:List Int,R.length=8→(∀k,0≤R.getD k 0∧R.getD k 0<4294967296)→∀k,0≤(f R).getD k 0∧(f R).getD k 0<4294967296
 run:∀(V:World) (b:Nat) (R:List Int),Below w.heap.size w V→w.heap.size≤b→R.length=8→V.heap[b]? =some (vX R)→Calls Tryz.prog k (#[.pointer (some ⟨b,0,none⟩)]++caps) V fun e w'=>e= .returned (.tuple #[])∧V.grownBy w' (some b)∧w'.heap[b]? =some (vX (f R))
theorem q8{w:World}{b:Nat}{R:List Int}(h:w.heap[b]? =some (vX R))(hR:R.length=8)(k:Nat)(hk:k<8):w.cell? ⟨b,k,none⟩=some (.int .u32 (R.getD k 0)):=by
 rw[cell_of_row w b k _ _ _ h];exact jD R k (by omega)
theorem Du{w:World}{b:Nat}{R:List Int}(h:w.heap[b]? =some (vX R))(k:Nat)(v:Int):(w.setCell ⟨b,k,none⟩ (.int .u32 v)).heap[b]? =some (vX (R.set k v)):=by
 have:=heap_setCell_same w b k _ _ (.int .u32 v) h
 rwa [vg]at this
theorem Ew(args:Array Value)(W:World):(callFunc 45 args).run Tryz.prog W= .ok (.enter 45 args) W:=enters Tryz.func45 rfl rfl args W
theorem Ey(args:Array Value)(W:World):(callFunc 116 args).run Tryz.prog W= .ok (.enter 116 args) W:=enters Tryz.func116 rfl rfl args W
theorem QH(w:World)(b:Nat)(x y:Int):(w.grownBy ((w.setCell ⟨b,0,none⟩ (.int .u32 x)).setCell ⟨b,1,none⟩ (.int .u32 y)) (some b)):=grownBy_trans (grownBy_setCell _ _ _ _) (grownBy_setCell _ _ _ _)
theorem Ow(V:World)(b:Nat)(R:List Int)(hR:R.length=8)(hg:V.heap[b]? =some (vX R)):Calls Tryz.prog 45 #[.pointer (some ⟨b,0,none⟩)] V fun e w'=>e= .returned (.tuple #[])∧V.grownBy w' (some b)∧w'.heap[b]? =some (vX ((R.set 0 0).set 1 0)):=by
 have c0:=q8 hg hR 0 (by decide)
 have c1:=q8 hg hR 1 (by decide)
 have f0:=frozen_of_row V b 0 _ _ hg
 have f1:=frozen_of_row V b 1 _ _ hg
 have HG:=Lib.hid hg
 generalize R.getD 0 0=r0 at c0
 generalize R.getD 1 0=r1 at c1
 clear hg
 go_enter Tryz.func45,Tryz.ntmps45
 go_wp2
 go_region
 go_end0
 exact⟨rfl,ku (QH V b 0 0) rfl rfl rfl rfl,Du (Du HG.out 0 0) 1 0⟩
theorem Ui(R:List Int)(i j:Nat)(v:Int):(R.set i v).getD j 0=if i=j∧i<R.length then v else R.getD j 0:=by
 simp only[List.getD_eq_getElem?_getD,List.getElem?_set]
 by_cases e:i=j
 ·subst e
  by_cases h:i<R.length
  ·simp[h]
  ·simp[h]
 ·simp[e]
theorem Dv{R:List Int}(h:∀k,0≤R.getD k 0∧R.getD k 0<4294967296)(i:Nat){v:Int}(hv:0≤v∧v<4294967296):∀k,0≤(R.set i v).getD k 0∧(R.set i v).getD k 0<4294967296:=fun k=>by
 rw[Ui]
 split
 ·exact hv
 ·exact h k
theorem Yo(w:World):How w 45 #[] (fun R=>(R.set 0 0).set 1 0):=
 ⟨Ew,fun R h=>by simp[h],fun R _ h=>Dv (Dv h 0 (by decide)) 1 (by decide),fun V b R _ _ hR hg=>Ow V b R hR hg⟩
abbrev rpO(r:Rp):Obj:= .cells #[.int .i64 r.1, .int .i64 r.2.1, .int .u32 r.2.2] 194 (0,0)
def Uj(r:Rp)(R:List Int):List Int:=((R.set 0 0).set 1 r.2.1).set 2 r.2.2
theorem Ox(V:World)(b bp:Nat)(r:Rp)(R:List Int)(hr:1≤r.2.1∧r.2.1≤8)(hR:R.length=8)(hg:V.heap[b]? =some (vX R))(hne:bp≠b)(h1:V.heap[bp]? =some (rpO r)):Calls Tryz.prog 116 #[.pointer (some ⟨b,0,none⟩), .pointer (some ⟨bp,0,none⟩)] V fun e w'=>e= .returned (.tuple #[])∧V.grownBy w' (some b)∧w'.heap[b]? =some (vX (Uj r R)):=by
 have c0:=q8 hg hR 0 (by decide)
 have c1:=q8 hg hR 1 (by decide)
 have c2:=q8 hg hR 2 (by decide)
 have f0:=frozen_of_row V b 0 _ _ hg
 have f1:=frozen_of_row V b 1 _ _ hg
 have f2:=frozen_of_row V b 2 _ _ hg
 obtain⟨x,y,z⟩:=r
 have p1:V.cell? ⟨bp,1,none⟩=some (.int .i64 y):=by rw[cell_of_row V bp 1 _ _ _ h1];rfl
 have p2:V.cell? ⟨bp,2,none⟩=some (.int .u32 z):=by rw[cell_of_row V bp 2 _ _ _ h1];rfl
 have yw:IntKind.u32.wrap y=y:=by rw[IntKind.wrap_u32];simp only at hr;omega
 have HG:=Lib.hid hg
 have n2:¬b=bp:=fun e=>hne e.symm
 generalize R.getD 0 0=x0 at c0
 generalize R.getD 1 0=x1 at c1
 generalize R.getD 2 0=x2 at c2
 clear hg h1 hr
 go_enter Tryz.func116,Tryz.ntmps116
 go_wp2
 go_region
 go_end0
 exact⟨rfl,ku (grownBy_trans (QH V b 0 y) (grownBy_setCell _ _ _ _)) rfl rfl rfl rfl,Du (Du (Du HG.out 0 0) 1 y) 2 z⟩
theorem Uk{w:World}{bp:Nat}{r:Rp}(hr:(1≤r.2.1∧r.2.1≤8)∧0≤r.2.2∧r.2.2<4294967296)(h1:w.heap[bp]? =some (rpO r)):How w 116 #[.pointer (some ⟨bp,0,none⟩)] (Uj r):=
 ⟨Ey,fun R h=>by simp[Uj,h],fun R _ h=>Dv (Dv (Dv h 0 (by decide)) 1 (by omega)) 2 hr.2,fun V b R hV hb hR hg=>Ox V b bp r R hr.1 hR hg (by have:=lt_of_block h1;omega) (below_block hV h1)⟩
section
variable {W0 w:World} {J:mE} {q c:Nat} {D:Int→Option Sp} {T:List Nd} {Qu:List Int} {Lb:List Nd} {G:Int→Option Pc} {rg:Int→Nat→Int}
theorem dK.num(h:dK W0 w J q c D T Qu Lb G rg):J.tr≤2000∧1≤J.n∧J.n≤8:=by
 obtain⟨fm,kw,m,P,Q,V,h1,h2,_⟩:=h.ex
 have h3:=h1.bl.mo.1
 have h4:=h2.good.most
 have h5:=h.tr.hi 1 (by decide) h4.1
 unfold kQ at h5
 have h3:J.I.n≤1024:=h3
 exact⟨by omega,h4⟩
theorem dK.load(h:dK W0 w J q c D T Qu Lb G rg){p:Int}(hp:1≤p∧p≤J.n):Calls Tryz.prog 50 #[Gx J, .int .i64 p] w fun e w'=>e= .returned (.tuple #[.agg (ah (Je rg p)), .int .i64 0])∧Below w.heap.size w w':=by
 obtain⟨L,h1,_,h2,_⟩:=h.byR hp.1 hp.2
 have hn:=h.num
 have:=Yn h1 hp.1 (by omega) (h.tr.hi p hp.1 hp.2) hn.1
 rwa [h2]at this
theorem dK.save(h:dK W0 w J q c D T Qu Lb G rg){p:Int}(hp:1≤p∧p≤J.n)(R:List Int)(hR:R.length=8)(hw:∀k,0≤R.getD k 0∧R.getD k 0<4294967296):Calls Tryz.prog 98 #[Gx J, .int .i64 p, .agg (ah R)] w fun e w'=>e= .returned (.int .i64 0)∧dK W0 w' J q c D T Qu Lb G (yV rg p R)∧ay w w':=by
 obtain⟨L,h1,_,_,h2⟩:=h.byR hp.1 hp.2
 have hn:=h.num
 refine(Ml h1 hp.1 (by omega) (h.tr.hi p hp.1 hp.2) hn.1 R hR).mono fun e w' ⟨he,hP⟩=>?_
 have:=h2 (R:=R++[0,0]) (by simp[hR]) (fun k=>by
  simp only[List.getD_eq_getElem?_getD]at hw ⊢
  by_cases hk:k<R.length
  ·rw[List.getElem?_append_left hk];exact hw k
  ·rw[List.getElem?_append_right (by omega)]
   rcases(show k-R.length=0∨k-R.length=1∨2≤k-R.length by omega)with e|e|e
   ·rw[e];decide
   ·rw[e];decide
   ·rw[List.getElem?_eq_none (by simpa using e)];decide) hP
 rw[List.take_left' hR]at this
 exact⟨he,this⟩
theorem dK.words(h:dK W0 w J q c D T Qu Lb G rg){p:Int}(hp:1≤p∧p≤J.n):∀k,0≤(Je rg p).getD k 0∧(Je rg p).getD k 0<4294967296:=fun k=>by
 obtain⟨L,_,h1,h2,_⟩:=h.byR hp.1 hp.2
 by_cases hk:k<8
 ·rw[←h2,qY _ _ hk];exact h1 k (by omega)
 ·rw[List.getD_eq_getElem?_getD,List.getElem?_eq_none (by simp[Je];omega)];decide
set_option maxHeartbeats 2000000 in
theorem dK.change(h:dK W0 w J q c D T Qu Lb G rg){p o:Int}(hp:1≤p∧p≤J.n)(ho:1≤o∧o≤J.n){k:Nat}{caps:Array Value}{f:List Int→List Int}(hw:How w k caps f):
  Calls Tryz.prog 44 #[Gx J, .int .i64 p, .int .i64 o, .func (.func k) #[] caps] w fun e w'=>e= .returned (.int .i64 0)∧dK W0 w' J q c D T Qu Lb G (yV rg p (f (Je rg o)))∧ay w w':=by
 have hz2:=Gw
 have X1:=Lib.hid (heap_alloc_new w (.cells (gV J) 37))
 have B1:=Lib.hid (Below.alloc (Below.refl w.heap.size w) (Nat.le_refl _) (.cells (gV J) 37))
 have LD:=Lib.hid (dK.load (h.step B1.out) ho)
 have hent:=hw.ent
 have HW:=Lib.hid hw
 obtain⟨R,hR⟩:∃R,R=Je rg o:=⟨_,rfl⟩
 have LR:Hid (R.length=8):=Lib.hid (by rw[hR];rfl)
 have WR:Hid (∀k,0≤R.getD k 0∧R.getD k 0<4294967296):=Lib.hid (by rw[hR];exact h.words ho)
 rw[←hR]at LD ⊢
 have H:=Lib.hid h
 clear h hw hR
 go_enter Tryz.func44,Tryz.ntmps44
 go_wp2_with(refine bP iD rfl (.tmp 4) rfl w.heap.size rfl (gV J) X1.out rfl ?_)
 refine LD.out.mono ?_
 rintro e w3 ⟨rfl,hb⟩
 have B3:=Lib.hid (B1.out.trans (hb.mono B1.out.size))
 have X3:=Lib.hid (below_block hb X1.out)
 have Z3:=Lib.hid (heap_alloc_new w3 (vX z8))
 clear hb
 go_wp2_with(refine aH vW rfl (.tmp 9) (.tmp 15) rfl w3.heap.size (ah R) rfl rfl _ Z3.out (qw R LR.out) rfl (fJ R) ?_)
 have B4:=Lib.hid (below_setRow (B3.out.alloc B3.out.size (vX z8)) B3.out.size (ah R))
 have Z4:Hid (((w3.alloc (vX z8)).setRow w3.heap.size (ah R)).heap[w3.heap.size]? =some (vX R)):=Lib.hid (setRow_heap _ _ _ _ _ _ Z3.out)
 have X4:Hid (((w3.alloc (vX z8)).setRow w3.heap.size (ah R)).heap[w.heap.size]? =some (.cells (gV J) 37 (0,0))):=Lib.hid (bU _ _ (Nat.ne_of_lt (lt_of_block X3.out)) ((heap_alloc_old _ _ (lt_of_block X3.out)).trans X3.out))
 refine(HW.out.run _ w3.heap.size R B4.out B3.out.size LR.out Z4.out).mono ?_
 rintro e w5 ⟨rfl,hg,hr⟩
 have B5:=Lib.hid (B4.out.trans (kZ hg (Nat.le_trans B3.out.size (by simp)) B3.out.size))
 have Z5:=Lib.hid hr
 have X5:=Lib.hid ((hg.block _ (lt_of_block X4.out) (fun e=>by have:=lt_of_block X3.out;have:=Option.some.inj e;omega)).trans X4.out)
 have SV:=Lib.hid (dK.save (H.out.step B5.out) hp (f R) (HW.out.len R LR.out) (HW.out.wd R LR.out WR.out))
 clear hg hr
 go_wp2_with(first|(refine bP iD rfl (.tmp 4) rfl w.heap.size rfl (gV J) X5.out rfl ?_)|(refine bP vW rfl (.tmp 9) rfl w3.heap.size rfl (ah (f R)) Z5.out (qw _ (HW.out.len R LR.out)) ?_))
 refine SV.out.mono ?_
 rintro e w6 ⟨rfl,h6,hk⟩
 have P6:=Lib.hid (And.intro h6 ((ay.below B5.out).trans hk))
 clear h6 hk
 go_wp2_with fail
 go_ret
 exact⟨rfl,P6.out⟩
end
end
section
theorem GI{i:Int}:∀{L:List Nd} {k:Nat},k<L.length→(∀j,j<k→(L.getD j default).1≠i)→(L.getD k default).1=i→aD i L=some (L.getD k default)
 |[],k,hk,_,_=>absurd hk (by simp)
 |n::r,0,_,_,h=>by
  rw[aD,if_pos (by simpa using h)];rfl
 |n::r,k+1,hk,h0,h=>by
  have h1:n.1≠i:=by simpa using h0 0 (by omega)
  rw[aD,if_neg h1]
  simp only[List.getD_cons_succ]at h ⊢
  exact GI (by simpa using hk) (fun j hj=>by simpa using h0 (j+1) (by omega)) h
section
variable {W0 w:World} {J:mE} {q c:Nat} {D:Int→Option Sp} {T:List Nd} {Qu:List Int} {Lb:List Nd} {G:Int→Option Pc} {rg:Int→Nat→Int}
set_option maxHeartbeats 2000000 in
theorem dK.ab0(h:dK W0 w J q c D T Qu Lb G rg)(i:Int):Calls Tryz.prog 41 #[Gx J, .int .i64 i] w fun e w'=>e= .returned (.int .i64 (aZ Lb i:Int))∧Below w.heap.size w w':=by
 have X1:=Lib.hid (heap_alloc_new w (.cells (gV J) 37))
 have B1:=Lib.hid (Below.alloc (Below.refl w.heap.size w) (Nat.le_refl _) (.cells (gV J) 37))
 obtain⟨fm,kw,Q,V,h1,_⟩:=h.Mk
 have AL:=Lib.hid (h1.step B1.out).bl.afq
 have GD:=Lib.hid h1.j.tree.good
 have hlen:Lb.length≤8:=h1.j.tree.good.len
 obtain⟨n,hn⟩:∃n,n=Lb.length:=⟨_,rfl⟩
 have HN:=Lib.hid hn
 have h8:n≤8:=by omega
 obtain⟨-, -, -,c3, -⟩:=dA X1.out
 clear h h1 hlen hn
 go_enter Tryz.func41,Tryz.ntmps41
 go_wp2_with fail
 refine AL.out.mono ?_
 rintro e w1 ⟨v,rfl,ho,hb⟩
 have B2:=Lib.hid (B1.out.trans (hb.mono B1.out.size))
 obtain⟨a,cp,rfl,hg⟩:=L9.lJ ho
 have HG:=Lib.hid hg
 rw[←HN.out]
 clear ho hb hg c3
 go_wp2_with fail
 go_loopw [11] (fun s wr=>∃k:Nat,s= .int .i64 (k:Int)∧k≤n∧(∀j,j<k→(Lb.getD j default).1≠i)∧Below w1.heap.size w1 wr) (fun s _=>(n-(intOf s).toNat))
 case atStart=>exact⟨0,rfl,Nat.zero_le _,fun j hj=>absurd hj (by omega),Below.refl _ _⟩
 case round=>
  obtain⟨k,rfl,hk,h0,hB⟩:=hrel
  have H0:=Lib.hid h0
  have BR:=Lib.hid hB
  by_cases hlt:k<n
  ·obtain⟨g,rfl,hg1,hg2⟩:=HG.out.resolve_left (by intro e;have:=HN.out;rw[e]at this;simp at this;omega)
   obtain⟨c0,c1,c2,c3⟩:=hg2 k (by have:=HN.out;omega)
   have c0:=(hB.cell (p:=⟨g,k*4,none⟩) hg1).trans c0
   have c1:=(hB.cell (p:=⟨g,k*4+1,none⟩) hg1).trans c1
   have c2:=(hB.cell (p:=⟨g,k*4+2,none⟩) hg1).trans c2
   have c3:=(hB.cell (p:=⟨g,k*4+3,none⟩) hg1).trans c3
   by_cases he:(Lb.getD k default).1=i
   ·have U:Hid ((aZ Lb i:Int)=(Lb.getD k default).2.2.2):=Lib.hid (by
     unfold aZ
     rw[GI (by have:=HN.out;omega) h0 he]
     have:=GD.out.ok _ (xM (show k<Lb.length by have:=HN.out;omega))
     dsimp only[MR]at this
     simp only
     omega)
    generalize Lb.getD k default=nd at c0 c1 c2 c3 he U
    obtain⟨x0,x1,x2,x3⟩:=nd
    simp only at c0 c1 c2 c3 he U
    have e1:(x0==i)=true:=by simpa using he
    clear h0 hB hg1 hg2
    go_wp2_with fail
    go_ret
    exact⟨by rw[U.out];rfl,B2.out.trans ((BR.out.alloc BR.out.size _).mono B2.out.size)⟩
   ·have e1:((Lb.getD k default).1==i)=false:=by simpa using he
    have NE:=Lib.hid he
    generalize hnd:Lb.getD k default=nd at c0 c1 c2 c3 e1
    have HD:=Lib.hid hnd
    obtain⟨x0,x1,x2,x3⟩:=nd
    simp only at c0 c1 c2 c3 e1
    clear h0 hB hg1 hg2 hnd he
    go_wp2_with fail
    go_roundw
    case rel=>exact⟨k+1,by go_num,by omega,fun j hj=>by
     rcases(show j<k∨j=k by omega)with hj|rfl
     ·exact H0.out j hj
     ·exact NE.out,BR.out.alloc BR.out.size _⟩
    case measure=>simp[intOf];omega
  ·obtain rfl:k=n:=by omega
   have U:Hid ((aZ Lb i:Int)=0):=Lib.hid (by
    have:aD i Lb=none:=Ze fun j hj=>h0 j (by have:=HN.out;omega)
    unfold aZ
    rw[this];rfl)
   clear h0 hB
   go_wp2_with fail
   go_ret
   exact⟨by rw[U.out];rfl,B2.out.trans (BR.out.mono B2.out.size)⟩
end
set_option maxHeartbeats 2000000 in
theorem GJ{w:World}{J:mE}{p:Int}{R:List Int}(hR:R.length=8){A Post:World→Prop}(OP:∀V,Below w.heap.size w V→Calls Tryz.prog 99 #[.pointer (some ⟨J.I.ss,0,none⟩), .int .i64 p] V fun e w'=>e= .returned (.int .i64 0)∧ay V w'∧A w')
  (SV:∀V,A V→Calls Tryz.prog 98 #[Gx J, .int .i64 p, .agg (ah R)] V fun e w'=>e= .returned (.int .i64 0)∧Post w'):
  Calls Tryz.prog 47 #[Gx J, .int .i64 p, .agg (ah R)] w fun e w'=>e= .returned (.int .i64 0)∧Post w':=by
 have B2:=Lib.hid (ak w (.cells (gV J) 37) (vX R))
 have X1:=Lib.hid (heap_alloc2_old w (.cells (gV J) 37) (vX R))
 have X2:=Lib.hid (heap_alloc2_new w (.cells (gV J) 37) (vX R))
 have OP:=Lib.hid OP
 have SV:=Lib.hid SV
 have LR:=Lib.hid hR
 obtain⟨-, -, -, -,c4, -⟩:=dA X1.out
 clear hR
 go_enter Tryz.func47,Tryz.ntmps47
 go_wp2_with fail
 refine(OP.out _ B2.out).mono ?_
 rintro e w3 ⟨rfl,hk,ha⟩
 have A3:=Lib.hid ha
 have X3:=Lib.hid (hk.box X1.out (by decide))
 have Y3:=Lib.hid (hk.box X2.out (by decide))
 clear hk ha c4
 go_wp2_with(first|(refine bP iD rfl (.tmp 3) rfl w.heap.size rfl (gV J) X3.out rfl ?_)|(refine bP vW rfl (.tmp 5) rfl (w.heap.size+1) rfl (ah R) Y3.out (qw _ LR.out) ?_))
 refine(SV.out w3 A3.out).mono ?_
 rintro e w4 ⟨rfl,hp⟩
 have P4:=Lib.hid hp
 clear hp
 go_wp2_with fail
 go_ret
 exact⟨rfl,P4.out⟩
end
end Go.Proofs.YtammlljefhakmaaGreatDoor
