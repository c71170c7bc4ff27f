/- Helps of the proof. No condition. -/
import Derived.Test.YtammlljefhakmaaGreatDoorIL
import Derived.BigQuiet
namespace Go.Proofs.YtammlljefhakmaaGreatDoor
open Go.RowKit Go.Maps
set_option maxRecDepth 100000
section
structure xJ(W0 w:World)(J:mE)(c:Nat)(Q:Nat→Nat)(V:Nat→Nat→Int)(D:Int→Option Sp)(T:List Nd)(Qu:List Int)(Lb:List Nd)(G:Int→Option Pc)(rg:Int→Nat→Int):Prop where
 ex:∃fm kw m P,BL W0 w (J.I.re fm kw) c Q V Lb G D∧TabAt w J.tb m J.n P T∧(fm m).isSome=true∧(∀k,k=J.tb∨tB m P k→W0.heap.size≤k)∧∀p k,1≤p→p≤J.n→k<8→kw (kQ J p) (10*kR p+k)=rg p k
 yX:xI w J.qb Qu
 nq:W0.heap.size≤J.qb
 tr:afH J
section
variable {W0 w:World} {J:mE} {c:Nat} {Q:Nat→Nat} {V:Nat→Nat→Int} {D:Int→Option Sp} {T:List Nd} {Qu:List Int} {Lb:List Nd} {G:Int→Option Pc} {rg:Int→Nat→Int}
theorem BL.frozen{I:lK}(h:BL W0 w I c Q V Lb G D){m:Nat}(hm:(I.fm m).isSome=true):w.heap[m]? =I.fm m:=by
 obtain⟨W,Pb,k,_⟩:=h
 obtain⟨o,ho⟩:=Option.isSome_iff_exists.1 hm
 rw[ho]
 exact(k.fm.at_ m o ho).1
theorem xJ.step{w':World}(h:xJ W0 w J c Q V D T Qu Lb G rg)(hb:Below w.heap.size w w'):xJ W0 w' J c Q V D T Qu Lb G rg:=by
 obtain⟨fm,kw,m,P,h1,h2,h3⟩:=h.ex
 exact⟨⟨fm,kw,m,P,h1.step hb,h2.later hb,h3⟩,h.yX.below hb,h.nq,h.tr⟩
theorem xJ.good(h:xJ W0 w J c Q V D T Qu Lb G rg):aL J.n T:=by
 obtain⟨fm,kw,m,P,_,h2,_⟩:=h.ex
 exact h2.good
theorem xJ.full(h:xJ W0 w J c Q V D T Qu Lb G rg){q:Nat}(hj:Go.Proofs.YtammlljefhakmaaGreatDoor.J J.I.n q c D Q Lb ig (PG G)):dK W0 w J q c D T Qu Lb G rg:=by
 obtain⟨fm,kw,m,P,h1,h2⟩:=h.ex
 exact⟨⟨fm,kw,m,P,Q,V,⟨h1,hj⟩,h2⟩,h.yX,h.nq,h.tr⟩
theorem xJ.pool(h:xJ W0 w J c Q V D T Qu Lb G rg):∃X L R,bX W0 w X L R∧X.mp=J.I.X.mp∧X.pb=J.I.X.pb∧X.P=J.I.X.P∧X.n=J.I.n:=by
 obtain⟨fm,kw,m,P,h1,_⟩:=h.ex
 obtain⟨W,Pb,k1,_⟩:=h1
 obtain⟨L,R,S,O,T,m1,_⟩:=k1.sys.ex
 exact⟨_,L,R,m1.own,rfl,rfl,rfl,k1.sys.hn⟩
theorem xJ.Qz(h:xJ W0 w J c Q V D T Qu Lb G rg)(hgd:bR Lb)(hN:(aD 1 Lb).isSome=true)(hG:G 1=none)(hc:c≠0)(hl:1≤aS Lb 1):Calls Tryz.prog 99 #[.pointer (some ⟨J.I.ss,0,none⟩), .int .i64 1] w fun e w'=>e= .returned (.int .i64 0)∧ay w w'∧∃s,s.ar=[]∧xJ W0 w' J (c-1) Q V (aV D 1 (some qP)) T Qu (aF Lb 1 1) (dn G 1 s) rg:=by
 obtain⟨fm,kw,m,P,h1,h2,h3,h4,h5⟩:=h.ex
 refine(h1.Qz hgd (by decide) hN hG (fun _=>hc)).mono ?_
 rintro e w' (⟨h0,_⟩|⟨_,_,_,rfl,s,hs,hb,hk⟩)
 ·omega
 ·exact⟨rfl,hk,s,hs,⟨⟨fm,kw,m,P,hb,h2.keep hk ((hb.frozen h3).trans (h1.frozen h3).symm),h3,h4,h5⟩,h.yX.keep hk,h.nq,h.tr⟩⟩
theorem xJ.afY(h:xJ W0 w J c Q V D T Qu Lb G fun _ _=>0):Calls Tryz.prog 98 #[Gx J, .int .i64 1, .agg (ah z8)] w fun e w'=>e= .returned (.int .i64 0)∧xJ W0 w' J c Q V D T Qu Lb G (fun _ _=>0)∧ay w w':=by
 obtain⟨fm,kw,m,P,h1,h2,h3,h4,h5⟩:=h.ex
 obtain⟨L,m1,m2,m3,m4⟩:=h1.mem
 have hn:=h2.good.most
 have hf:=h.tr.hi 1 (by decide) hn.1
 have hlo:=h.tr.lo
 have hge:J.I.hi≤kQ J 1:=by unfold kQ;omega
 have hs1:kR 1=0:=rfl
 have hlen:L.length=J.I.n*32:=m1.len
 have aj3:J.I.n≤1024:=h1.mo.1
 have htr:J.tr≤2000:=by unfold kQ at hf;omega
 have hin:kQ J 1*32+10*kR 1+10≤L.length:=by omega
 refine(Ml m1 (by decide) (by decide) hf htr z8 rfl).mono ?_
 rintro e w' ⟨he,hP⟩
 have hget:∀f y,y<32→(rW L (kQ J 1*32+10*kR 1) (z8++[0,0]) 10).getD (f*32+y) 0=if f=kQ J 1∧y<10 then 0 else L.getD (f*32+y) 0:=fun f y hy=>by
  rw[uS _ _ _ _ _ hin]
  by_cases e:f=kQ J 1∧y<10
  ·rw[if_pos e,if_pos (by omega),show f*32+y-(kQ J 1*32+10*kR 1)=y by omega]
   rcases(show y=0∨y=1∨y=2∨y=3∨y=4∨y=5∨y=6∨y=7∨y=8∨y=9 by omega)with rfl|rfl|rfl|rfl|rfl|rfl|rfl|rfl|rfl|rfl<;>rfl
  ·rw[if_neg e,if_neg (by omega)]
 obtain⟨b1,b2⟩:=m4 w' _ (fun f y=>(rW L (kQ J 1*32+10*kR 1) (z8++[0,0]) 10).getD (f*32+y) 0) hP (fun i=>by
  have hd:i=i/32*32+i%32:=by omega
  rw[hd,hget _ _ (by omega)]
  split
  ·decide
  ·exact m2 _) (fun f y hfh hy=>by rw[hget f y hy,if_neg (by have:f<J.I.hi:=hfh;omega)]) (fun _ _ _ _ _=>rfl)
 refine⟨he,⟨⟨fm,fun f y=>(rW L (kQ J 1*32+10*kR 1) (z8++[0,0]) 10).getD (f*32+y) 0,m,P,b1,h2.keep b2 ((b1.frozen h3).trans (h1.frozen h3).symm),h3,h4,fun j k hj hjn hk=>?_⟩,h.yX.keep b2,h.nq,h.tr⟩,b2⟩
 have hsj:kR j<3:=by unfold kR;omega
 show(rW L (kQ J 1*32+10*kR 1) (z8++[0,0]) 10).getD (kQ J j*32+(10*kR j+k)) 0= _
 rw[hget (kQ J j) (10*kR j+k) (by omega)]
 split
 ·rfl
 ·have hfj:=h.tr.hi j hj hjn
  have hgj:J.I.hi≤kQ J j:=by unfold kQ;omega
  exact(m3 (kQ J j) (10*kR j+k) hfj (by omega) hgj).trans (h5 j k hj hjn hk)
theorem xJ.byQ(h:xJ W0 w J c Q V D T Qu Lb G rg){w':World}{DX:List Int}(t:Bw w w' J.qb DX):xJ W0 w' J c Q V D T DX Lb G rg:=by
 obtain⟨fm,kw,m,P,h1,h2,h3,h4,h5⟩:=h.ex
 obtain⟨cs,hq⟩:=h.yX.block
 have ho:Only w w' (fun k=>k=J.qb):=Only.grown t.grown rfl
 have key:∀{k:Nat} {o:Obj},w.heap[k]? =some o→kindOf o≠some 166→k≠J.qb:=fun {k o} hk hne e=>by
  rw[e,hq]at hk
  cases hk
  exact hne rfl
 have ht:TabAt w' J.tb m J.n P T:=h2.kept (ho.block _ (lt_of_block h2.box) (key h2.box (by simp only[Zl,kindOf];decide))) fun k hk=>ho.block _ (h2.lt hk) (by
  rcases hk with rfl|⟨i,hi⟩
  ·obtain⟨es,ck,hm⟩:=h2.map.isMap
   exact key hm (by simp[kindOf])
  ·obtain⟨x,_,hx⟩:=h2.proc hi
   exact key hx (by simp only[DT,kindOf];decide))
 obtain⟨W,Pb,k1,k2⟩:=h1
 have hf:∀k o,fm k=some o→w'.heap[k]? =some o∧tL o=true∧(fm k).isSome=true:=fun k o hk=>by
  obtain⟨e1,hm⟩:=k1.fm.at_ k o hk
  refine⟨ho.kept e1 (key e1 ?_),hm,by rw[hk];rfl⟩
  cases o<;>simp_all [tL,kindOf]
 exact⟨⟨fm,kw,m,P,⟨W,Pb,k1.far ho (fun k hk=>by rw[hk];exact h.nq) (fun k hk=>by rw[hk];exact wY.cells hq (by decide)) hf,k2⟩,ht,h3,h4,h5⟩,t.st,h.nq,h.tr⟩
end
end
section
theorem Yw{w:World}{mp fb n:Nat}{L:List Int}(h:bT w mp fb n L){tr:Nat}(ht:tr+3≤n)(hn:n≤1024)(sl:Int){b:Bool}(hb:decide (sl≤9)=b):Calls Tryz.prog 69 #[.agg #[.int .i64 (tr:Int), .int .i64 3], .pointer (some ⟨mp,0,none⟩), .int .i64 sl] w fun e w'=>e= .returned (.bool b)∧Below w.heap.size w w':=by
 have B1:=Lib.hid (Below.alloc (Below.refl w.heap.size w) (Nat.le_refl _) (.cells #[.int .i64 (tr:Int), .int .i64 3] 64))
 have FR:=Lib.hid (fun m=>(aO mp _ n n ((w.alloc (.cells #[.int .i64 (tr:Int), .int .i64 3] 64)).drewN m) (((Below.cell (below_drewN (Below.alloc (Below.refl w.heap.size w) (Nat.le_refl _) (.cells #[.int .i64 (tr:Int), .int .i64 3] 64)) m) (p:=⟨mp,0,none⟩) (lt_of_block h.box)).trans h.iE))).mono fun _ _ h=>And.intro h.1 h.2.symm)
 have d1:(0:Int)≤(tr:Int):=by omega
 have d2:(tr:Int)≤(n:Int)-3:=by omega
 have d3:IntKind.i64.wrap ((n:Int)-3)=(n:Int)-3:=by rw[IntKind.wrap_i64];omega
 clear h ht hn
 go_enter Tryz.func69,Tryz.ntmps69
 go_wp2_with fail
 go_quiet ((go_at_call 65;exact Calls.quiet_of_same (FR.out _)))
 go_wp2
 go_ret
 exact⟨rfl,below_drewN B1.out nq⟩
theorem Yx{w:World}{tr mp:Nat}(sl:Int):Calls Tryz.prog 69 #[.agg #[.int .i64 (tr:Int), .int .i64 0], .pointer (some ⟨mp,0,none⟩), .int .i64 sl] w fun e w'=>e= .returned (.bool false)∧Below w.heap.size w w':=by
 have B1:=Lib.hid (Below.alloc (Below.refl w.heap.size w) (Nat.le_refl _) (.cells #[.int .i64 (tr:Int), .int .i64 0] 64))
 go_enter Tryz.func69,Tryz.ntmps69
 go_wp2_with fail
 go_quiet (fail)
 go_wp2
 go_ret
 exact⟨rfl,below_drewN B1.out nq⟩
section
variable {w:World} {m p:Option Addr} {a er nn:Int}
structure Jg(w:World)(m p:Option Addr)(a er nn:Int):Prop where
 own:∀V,Below w.heap.size w V→Calls Tryz.prog 67 #[.pointer p, .int .i64 0] V fun e w'=>e= .returned (.tuple #[.int .i64 a, .int .i64 er])∧Below V.heap.size V w'
 frm:∀V,Below w.heap.size w V→Calls Tryz.prog 65 #[.pointer m] V fun e w'=>e= .returned (.int .i64 nn)∧Below V.heap.size V w'
abbrev DY(x y:Int):Obj:= .cells #[.int .i64 x, .int .i64 y] 64 (0,0)
abbrev pcO(x y:Int):Obj:= .cells #[.int .i64 x, .int .i64 y] 29 (0,0)
theorem Ms(h:Jg w m p a er nn)(h0:nn=0∨nn≠0∧er=1)(k tr mn q sl:Int):Calls Tryz.prog 26 #[.pointer m, .pointer p, .int .i64 k, .agg #[.int .i64 tr, .int .i64 mn], .agg #[.int .i64 q, .int .i64 sl]] w fun e w'=>e= .returned (.tuple #[.pointer none, .int .i64 1])∧Below w.heap.size w w':=by
 have B1:=Lib.hid (ak w (DY tr mn) (pcO q sl))
 have H:=Lib.hid h
 clear h
 have h0':(nn==0)=true∨(nn==0)=false∧(er==1)=true:=by
  rcases h0 with e|⟨e1,e2⟩
  ·exact Or.inl (by simpa using e)
  ·exact Or.inr ⟨by simpa using e1,by simpa using e2⟩
 clear h0
 rcases h0' with d1|⟨d1,d2⟩
 all_goals
  go_enter Tryz.func26,Tryz.ntmps26
  go_wp2_with fail
  refine(H.out.own _ B1.out).mono ?_
  rintro e w2 ⟨rfl,hb⟩
  have B2:=Lib.hid (B1.out.trans (hb.mono B1.out.size))
  clear hb
  go_wp2_with fail
  refine(H.out.frm w2 B2.out).mono ?_
  rintro e w3 ⟨rfl,hb⟩
  have B3:=Lib.hid (B2.out.trans (hb.mono B2.out.size))
  clear hb
  go_wp2_with fail
  go_ret2
  exact⟨rfl,B3.out⟩
end
end
section
section
variable {w:World} {m p:Option Addr} {a er nn:Int}
theorem y9(h:Jg w m p a er nn)(h0:nn≠0)(h1:er≠1){k tr mn q sl:Int}(hq:mO q=false):Calls Tryz.prog 26 #[.pointer m, .pointer p, .int .i64 k, .agg #[.int .i64 tr, .int .i64 mn], .agg #[.int .i64 q, .int .i64 sl]] w fun e w'=>e= .returned (.tuple #[.pointer none, .int .i64 2])∧Below w.heap.size w w':=by
 have B1:=Lib.hid (ak w (DY tr mn) (pcO q sl))
 have R1:=Lib.hid (heap_alloc2_old w (DY tr mn) (pcO q sl))
 have X1:=Lib.hid (heap_alloc2_new w (DY tr mn) (pcO q sl))
 have H:=Lib.hid h
 have IQ:=Lib.hid (fun V=>jM q V hq)
 have d1:(nn==0)=false:=by simpa using h0
 have d2:(er==1)=false:=by simpa using h1
 clear h h0 h1 hq
 go_enter Tryz.func26,Tryz.ntmps26
 go_wp2_with fail
 refine(H.out.own _ B1.out).mono ?_
 rintro e w2 ⟨rfl,hb⟩
 have B2:=Lib.hid (B1.out.trans (hb.mono B1.out.size))
 have R2:=Lib.hid (below_block hb R1.out)
 have X2:=Lib.hid (below_block hb X1.out)
 clear hb
 go_wp2_with fail
 refine(H.out.frm w2 B2.out).mono ?_
 rintro e w3 ⟨rfl,hb⟩
 have B3:=Lib.hid (B2.out.trans (hb.mono B2.out.size))
 have R3:=Lib.hid (below_block hb R2.out)
 have X3:=Lib.hid (below_block hb X2.out)
 clear hb
 have q0:w3.cell? ⟨w.heap.size+1,0,none⟩=some (.int .i64 q):=by rw[cell_of_row w3 _ 0 _ _ _ X3.out];rfl
 have q1:w3.cell? ⟨w.heap.size+1,1,none⟩=some (.int .i64 sl):=by rw[cell_of_row w3 _ 1 _ _ _ X3.out];rfl
 have r0:w3.cell? ⟨w.heap.size,0,none⟩=some (.int .i64 tr):=by rw[cell_of_row w3 _ 0 _ _ _ R3.out];rfl
 have r1:w3.cell? ⟨w.heap.size,1,none⟩=some (.int .i64 mn):=by rw[cell_of_row w3 _ 1 _ _ _ R3.out];rfl
 go_wp2_with fail
 refine(IQ.out w3).mono ?_
 rintro e w4 ⟨rfl,rfl⟩
 go_wp2_with fail
 go_ret2
 exact⟨rfl,B3.out⟩
theorem ze(h:Jg w m p a er nn)(h0:nn≠0)(h1:er≠1){k tr mn q sl:Int}(hq:mO q=true)(hf:∀V,Below w.heap.size w V→Calls Tryz.prog 69 #[.agg #[.int .i64 tr, .int .i64 mn], .pointer m, .int .i64 sl] V fun e w'=>e= .returned (.bool false)∧Below V.heap.size V w'):Calls Tryz.prog 26 #[.pointer m, .pointer p, .int .i64 k, .agg #[.int .i64 tr, .int .i64 mn], .agg #[.int .i64 q, .int .i64 sl]] w fun e w'=>e= .returned (.tuple #[.pointer none, .int .i64 2])∧Below w.heap.size w w':=by
 have B1:=Lib.hid (ak w (DY tr mn) (pcO q sl))
 have R1:=Lib.hid (heap_alloc2_old w (DY tr mn) (pcO q sl))
 have X1:=Lib.hid (heap_alloc2_new w (DY tr mn) (pcO q sl))
 have H:=Lib.hid h
 have IQ:=Lib.hid (fun V=>jM q V hq)
 have d1:(nn==0)=false:=by simpa using h0
 have d2:(er==1)=false:=by simpa using h1
 have FT:=Lib.hid hf
 clear hf
 clear h h0 h1 hq
 go_enter Tryz.func26,Tryz.ntmps26
 go_wp2_with fail
 refine(H.out.own _ B1.out).mono ?_
 rintro e w2 ⟨rfl,hb⟩
 have B2:=Lib.hid (B1.out.trans (hb.mono B1.out.size))
 have R2:=Lib.hid (below_block hb R1.out)
 have X2:=Lib.hid (below_block hb X1.out)
 clear hb
 go_wp2_with fail
 refine(H.out.frm w2 B2.out).mono ?_
 rintro e w3 ⟨rfl,hb⟩
 have B3:=Lib.hid (B2.out.trans (hb.mono B2.out.size))
 have R3:=Lib.hid (below_block hb R2.out)
 have X3:=Lib.hid (below_block hb X2.out)
 clear hb
 have q0:w3.cell? ⟨w.heap.size+1,0,none⟩=some (.int .i64 q):=by rw[cell_of_row w3 _ 0 _ _ _ X3.out];rfl
 have q1:w3.cell? ⟨w.heap.size+1,1,none⟩=some (.int .i64 sl):=by rw[cell_of_row w3 _ 1 _ _ _ X3.out];rfl
 have r0:w3.cell? ⟨w.heap.size,0,none⟩=some (.int .i64 tr):=by rw[cell_of_row w3 _ 0 _ _ _ R3.out];rfl
 have r1:w3.cell? ⟨w.heap.size,1,none⟩=some (.int .i64 mn):=by rw[cell_of_row w3 _ 1 _ _ _ R3.out];rfl
 go_wp2_with fail
 refine(IQ.out w3).mono ?_
 rintro e w4 ⟨rfl,rfl⟩
 go_wp2_with fail
 refine(FT.out w4 B3.out).mono ?_
 rintro e w5 ⟨rfl,hb⟩
 have B5:=Lib.hid (B3.out.trans (hb.mono B3.out.size))
 have X5:=Lib.hid (below_block hb X3.out)
 have R5:=Lib.hid (below_block hb R3.out)
 clear hb q0 q1 r0 r1
 go_wp2_with fail
 go_ret2
 exact⟨rfl,B5.out⟩
theorem GX(h:Jg w m p a er nn)(h0:nn≠0)(h1:er≠1){k tr mn q sl:Int}(hq:mO q=true)(hf:∀V,Below w.heap.size w V→Calls Tryz.prog 69 #[.agg #[.int .i64 tr, .int .i64 mn], .pointer m, .int .i64 sl] V fun e w'=>e= .returned (.bool true)∧Below V.heap.size V w')(hs:¬(1≤sl∧sl≤8)):Calls Tryz.prog 26 #[.pointer m, .pointer p, .int .i64 k, .agg #[.int .i64 tr, .int .i64 mn], .agg #[.int .i64 q, .int .i64 sl]] w fun e w'=>e= .returned (.tuple #[.pointer none, .int .i64 2])∧Below w.heap.size w w':=by
 have B1:=Lib.hid (ak w (DY tr mn) (pcO q sl))
 have R1:=Lib.hid (heap_alloc2_old w (DY tr mn) (pcO q sl))
 have X1:=Lib.hid (heap_alloc2_new w (DY tr mn) (pcO q sl))
 have H:=Lib.hid h
 have IQ:=Lib.hid (fun V=>jM q V hq)
 have d1:(nn==0)=false:=by simpa using h0
 have d2:(er==1)=false:=by simpa using h1
 have FT:=Lib.hid hf
 have ST:=Lib.hid (fun V=>Vh sl V hs)
 clear hf hs
 clear h h0 h1 hq
 go_enter Tryz.func26,Tryz.ntmps26
 go_wp2_with fail
 refine(H.out.own _ B1.out).mono ?_
 rintro e w2 ⟨rfl,hb⟩
 have B2:=Lib.hid (B1.out.trans (hb.mono B1.out.size))
 have R2:=Lib.hid (below_block hb R1.out)
 have X2:=Lib.hid (below_block hb X1.out)
 clear hb
 go_wp2_with fail
 refine(H.out.frm w2 B2.out).mono ?_
 rintro e w3 ⟨rfl,hb⟩
 have B3:=Lib.hid (B2.out.trans (hb.mono B2.out.size))
 have R3:=Lib.hid (below_block hb R2.out)
 have X3:=Lib.hid (below_block hb X2.out)
 clear hb
 have q0:w3.cell? ⟨w.heap.size+1,0,none⟩=some (.int .i64 q):=by rw[cell_of_row w3 _ 0 _ _ _ X3.out];rfl
 have q1:w3.cell? ⟨w.heap.size+1,1,none⟩=some (.int .i64 sl):=by rw[cell_of_row w3 _ 1 _ _ _ X3.out];rfl
 have r0:w3.cell? ⟨w.heap.size,0,none⟩=some (.int .i64 tr):=by rw[cell_of_row w3 _ 0 _ _ _ R3.out];rfl
 have r1:w3.cell? ⟨w.heap.size,1,none⟩=some (.int .i64 mn):=by rw[cell_of_row w3 _ 1 _ _ _ R3.out];rfl
 go_wp2_with fail
 refine(IQ.out w3).mono ?_
 rintro e w4 ⟨rfl,rfl⟩
 go_wp2_with fail
 refine(FT.out w4 B3.out).mono ?_
 rintro e w5 ⟨rfl,hb⟩
 have B5:=Lib.hid (B3.out.trans (hb.mono B3.out.size))
 have X5:=Lib.hid (below_block hb X3.out)
 have R5:=Lib.hid (below_block hb R3.out)
 clear hb q0 q1 r0 r1
 have q0:w5.cell? ⟨w.heap.size+1,0,none⟩=some (.int .i64 q):=by rw[cell_of_row w5 _ 0 _ _ _ X5.out];rfl
 have q1:w5.cell? ⟨w.heap.size+1,1,none⟩=some (.int .i64 sl):=by rw[cell_of_row w5 _ 1 _ _ _ X5.out];rfl
 go_wp2_with fail
 refine(ST.out w5).mono ?_
 rintro e w6 ⟨rfl,rfl⟩
 go_wp2_with fail
 go_ret2
 exact⟨rfl,B5.out⟩
theorem GY(h:Jg w m p a er nn)(h0:nn≠0)(h1:er≠1){k tr mn q sl:Int}(hq:mO q=true)(hf:∀V,Below w.heap.size w V→Calls Tryz.prog 69 #[.agg #[.int .i64 tr, .int .i64 mn], .pointer m, .int .i64 sl] V fun e w'=>e= .returned (.bool true)∧Below V.heap.size V w')(hs:1≤sl∧sl≤8)(hn:∀V bb bm Pb,Below w.heap.size w V→bA V bb bm Pb [(1,0,q,0)]→Calls Tryz.prog 72 #[.pointer m, .pointer p, .int .i64 k, .pointer (some ⟨bb,0,none⟩)] V fun e w'=>e= .returned (.tuple #[.pointer none, .int .i64 2])∧Below V.heap.size V w'):Calls Tryz.prog 26 #[.pointer m, .pointer p, .int .i64 k, .agg #[.int .i64 tr, .int .i64 mn], .agg #[.int .i64 q, .int .i64 sl]] w fun e w'=>e= .returned (.tuple #[.pointer none, .int .i64 2])∧Below w.heap.size w w':=by
 have B1:=Lib.hid (ak w (DY tr mn) (pcO q sl))
 have R1:=Lib.hid (heap_alloc2_old w (DY tr mn) (pcO q sl))
 have X1:=Lib.hid (heap_alloc2_new w (DY tr mn) (pcO q sl))
 have H:=Lib.hid h
 have IQ:=Lib.hid (fun V=>jM q V hq)
 have d1:(nn==0)=false:=by simpa using h0
 have d2:(er==1)=false:=by simpa using h1
 have FT:=Lib.hid hf
 have ST:=Lib.hid (fun V=>Pg sl V hs)
 have NB:=Lib.hid (fun V=>Jw q V (by have:=uf.1 hq;unfold zq;exact decide_eq_true (by omega)))
 have SN:=Lib.hid hn
 clear hf hs hn
 clear h h0 h1 hq
 go_enter Tryz.func26,Tryz.ntmps26
 go_wp2_with fail
 refine(H.out.own _ B1.out).mono ?_
 rintro e w2 ⟨rfl,hb⟩
 have B2:=Lib.hid (B1.out.trans (hb.mono B1.out.size))
 have R2:=Lib.hid (below_block hb R1.out)
 have X2:=Lib.hid (below_block hb X1.out)
 clear hb
 go_wp2_with fail
 refine(H.out.frm w2 B2.out).mono ?_
 rintro e w3 ⟨rfl,hb⟩
 have B3:=Lib.hid (B2.out.trans (hb.mono B2.out.size))
 have R3:=Lib.hid (below_block hb R2.out)
 have X3:=Lib.hid (below_block hb X2.out)
 clear hb
 have q0:w3.cell? ⟨w.heap.size+1,0,none⟩=some (.int .i64 q):=by rw[cell_of_row w3 _ 0 _ _ _ X3.out];rfl
 have q1:w3.cell? ⟨w.heap.size+1,1,none⟩=some (.int .i64 sl):=by rw[cell_of_row w3 _ 1 _ _ _ X3.out];rfl
 have r0:w3.cell? ⟨w.heap.size,0,none⟩=some (.int .i64 tr):=by rw[cell_of_row w3 _ 0 _ _ _ R3.out];rfl
 have r1:w3.cell? ⟨w.heap.size,1,none⟩=some (.int .i64 mn):=by rw[cell_of_row w3 _ 1 _ _ _ R3.out];rfl
 go_wp2_with fail
 refine(IQ.out w3).mono ?_
 rintro e w4 ⟨rfl,rfl⟩
 go_wp2_with fail
 refine(FT.out w4 B3.out).mono ?_
 rintro e w5 ⟨rfl,hb⟩
 have B5:=Lib.hid (B3.out.trans (hb.mono B3.out.size))
 have X5:=Lib.hid (below_block hb X3.out)
 have R5:=Lib.hid (below_block hb R3.out)
 clear hb q0 q1 r0 r1
 have q0:w5.cell? ⟨w.heap.size+1,0,none⟩=some (.int .i64 q):=by rw[cell_of_row w5 _ 0 _ _ _ X5.out];rfl
 have q1:w5.cell? ⟨w.heap.size+1,1,none⟩=some (.int .i64 sl):=by rw[cell_of_row w5 _ 1 _ _ _ X5.out];rfl
 go_wp2_with fail
 refine(ST.out w5).mono ?_
 rintro e w6 ⟨⟨tb,tm,P,rfl,hT,ht1,ht2⟩,hb⟩
 have B6:=Lib.hid (B5.out.trans (hb.mono B5.out.size))
 have X6:=Lib.hid (below_block hb X5.out)
 have R6:=Lib.hid (below_block hb R5.out)
 have T6:=Lib.hid (And.intro hT (And.intro ht1 ht2))
 clear hT ht1 ht2 hb q0 q1
 have q0:w6.cell? ⟨w.heap.size+1,0,none⟩=some (.int .i64 q):=by rw[cell_of_row w6 _ 0 _ _ _ X6.out];rfl
 go_wp2_with fail
 refine(NB.out w6).mono ?_
 rintro e w7 ⟨⟨bb,bm,Pb,rfl,hB,hb1,hb2⟩,hb⟩
 have B7:=Lib.hid (B6.out.trans (hb.mono B6.out.size))
 have X7:=Lib.hid (below_block hb X6.out)
 have R7:=Lib.hid (below_block hb R6.out)
 have T7:=Lib.hid (T6.out.1.later hb)
 have SP:=Lib.hid (SN.out w7 bb bm Pb B7.out hB)
 clear hB hb1 hb2 hb q0
 go_wp2_with fail
 refine SP.out.mono ?_
 rintro e w8 ⟨rfl,hb⟩
 have B8:=Lib.hid (B7.out.trans (hb.mono B7.out.size))
 clear hb
 go_wp2_with fail
 go_ret2
 exact⟨rfl,B8.out⟩
end
end
section
theorem Ur{w:World}{b:Nat}{o0 o1 o2 o3 o4 o5:Value}{t:TypeId}(a0 a1 a2 a3 a4 a5:Value)(h:w.heap[b]? =some (.cells #[o0,o1,o2,o3,o4,o5] t (0,0))):((((((w.setCell ⟨b,0,none⟩ a0).setCell ⟨b,1,none⟩ a1).setCell ⟨b,2,none⟩ a2).setCell ⟨b,3,none⟩ a3).setCell ⟨b,4,none⟩ a4).setCell ⟨b,5,none⟩ a5).heap[b]? =some (.cells #[a0,a1,a2,a3,a4,a5] t (0,0)):=by
 have h1:=heap_setCell_same w b 0 _ _ a0 h
 have h2:=heap_setCell_same _ b 1 _ _ a1 h1
 have h3:=heap_setCell_same _ b 2 _ _ a2 h2
 have h4:=heap_setCell_same _ b 3 _ _ a3 h3
 have h5:=heap_setCell_same _ b 4 _ _ a4 h4
 have h6:=heap_setCell_same _ b 5 _ _ a5 h5
 simpa using h6
theorem Oz{B:Nat}{a w:World}{b:Nat}(a0 a1 a2 a3 a4 a5:Value)(h:Below B a w)(hb:B≤b):Below B a ((((((w.setCell ⟨b,0,none⟩ a0).setCell ⟨b,1,none⟩ a1).setCell ⟨b,2,none⟩ a2).setCell ⟨b,3,none⟩ a3).setCell ⟨b,4,none⟩ a4).setCell ⟨b,5,none⟩ a5):=
 (((((h.setCell (p:=⟨b,0,none⟩) hb _).setCell (p:=⟨b,1,none⟩) hb _).setCell (p:=⟨b,2,none⟩) hb _).setCell (p:=⟨b,3,none⟩) hb _).setCell (p:=⟨b,4,none⟩) hb _).setCell (p:=⟨b,5,none⟩) hb _
theorem OD(w:World)(b:Nat)(a0 a1 a2 a3 a4 a5:Value):w.grownBy ((((((w.setCell ⟨b,0,none⟩ a0).setCell ⟨b,1,none⟩ a1).setCell ⟨b,2,none⟩ a2).setCell ⟨b,3,none⟩ a3).setCell ⟨b,4,none⟩ a4).setCell ⟨b,5,none⟩ a5) (some b):=
 grownBy_trans (grownBy_setCell _ _ _ _) (grownBy_trans (grownBy_setCell _ _ _ _) (grownBy_trans (grownBy_setCell _ _ _ _) (grownBy_trans (grownBy_setCell _ _ _ _) (grownBy_trans (grownBy_setCell _ _ _ _) (grownBy_setCell _ _ _ _)))))
theorem ahZ{w:World}{b:Nat}{a0 a1 a2 a3 a4 a5:Value}{t:TypeId}{z:Nat×Nat}(h:w.heap[b]? =some (.cells #[a0,a1,a2,a3,a4,a5] t z)):w.cell? ⟨b,0,none⟩=some a0∧w.cell? ⟨b,1,none⟩=some a1∧w.cell? ⟨b,2,none⟩=some a2∧w.cell? ⟨b,3,none⟩=some a3∧w.cell? ⟨b,4,none⟩=some a4∧w.cell? ⟨b,5,none⟩=some a5:=by
 have:=fun i=>cell_of_row w b i _ _ _ h
 exact⟨this 0,this 1,this 2,this 3,this 4,this 5⟩
theorem Yy(a b c d e:Nat)(n:Int):(Tryz.prog.built 37 [(0, .pointer (some ⟨a,0,none⟩)),(1, .pointer (some ⟨b,0,none⟩)),(2, .int .i64 n),(3, .pointer (some ⟨c,0,none⟩)),(4, .pointer (some ⟨d,0,none⟩)),(5, .pointer (some ⟨e,0,none⟩))])=some #[.pointer (some ⟨a,0,none⟩), .pointer (some ⟨b,0,none⟩), .int .i64 n, .pointer (some ⟨c,0,none⟩), .pointer (some ⟨d,0,none⟩), .pointer (some ⟨e,0,none⟩)]:=by kernel_rfl
theorem Yz(a b c d e:Nat)(n:Int):(Tryz.prog.built 39 [(0, .agg #[.pointer (some ⟨a,0,none⟩), .pointer (some ⟨b,0,none⟩), .int .i64 n, .pointer (some ⟨c,0,none⟩), .pointer (some ⟨d,0,none⟩), .pointer (some ⟨e,0,none⟩)])])=some #[.pointer (some ⟨a,0,none⟩), .pointer (some ⟨b,0,none⟩), .int .i64 n, .pointer (some ⟨c,0,none⟩), .pointer (some ⟨d,0,none⟩), .pointer (some ⟨e,0,none⟩)]:=by kernel_rfl
theorem Mt(P:List (Nat×Nat))(x:Int):(iI P x).2≠1:=by
 unfold iI
 split<;>simp
theorem bX.ask{W0 w:World}{X:bD}{L:List Int}{R:Nat→Nat}(h:bX W0 w X L R):Jg w (some ⟨X.mp,0,none⟩) (some ⟨X.pb,0,none⟩) (iI X.P 0).1 (iI X.P 0).2 (X.n:Int):=
 ⟨fun V hb=>Fv X L R 0 V (h.step hb).st (by decide),fun V hb=>(aO X.mp _ _ _ V (h.step hb).st.mem.iE).mono fun e w' ⟨h1,h2⟩=>⟨h1,by rw[←h2];exact Below.refl _ _⟩⟩
abbrev psO(tb mp:Nat)(tr:Int)(bb ss qb:Nat):Obj:= .cells #[.pointer (some ⟨tb,0,none⟩), .pointer (some ⟨mp,0,none⟩), .int .i64 tr, .pointer (some ⟨bb,0,none⟩), .pointer (some ⟨ss,0,none⟩), .pointer (some ⟨qb,0,none⟩)] 39 (0,0)
theorem xJ.ps{W0 w:World}{a a' tb qb tr:Nat}{n:Int}{I:lK}{c:Nat}{Q:Nat→Nat}{V:Nat→Nat→Int}{D:Int→Option Sp}{T:List Nd}{Qu:List Int}{Lb:List Nd}{G:Int→Option Pc}{rg:Int→Nat→Int}(h:xJ W0 w ⟨a,tb,qb,tr,n,I⟩ c Q V D T Qu Lb G rg):xJ W0 w ⟨a',tb,qb,tr,n,I⟩ c Q V D T Qu Lb G rg:=⟨h.ex,h.yX,h.nq,⟨h.tr.lo,h.tr.hi⟩⟩
theorem Us{q:Nat}(h:q≤65536):bR [(1,0,(q:Int),0)]:=(Tree.one (q:=(q:Int)) ⟨by omega,by omega⟩).good
theorem zf(q:Int):aS [(1,0,q,0)] 1=q:=by
 rw[gK (n:=(1,0,q,0)) rfl]
 simp[bH]
theorem zY{q:Nat}(h:1≤q):aF [(1,0,(q:Int),0)] 1 1=[(1,0,(q:Int),1)]:=by
 have he:aX [(1,0,(q:Int),0)] 1 1=0:=fK.2 ⟨bN.2 (by omega),⟨_,rfl⟩,by rw[zf];omega⟩
 unfold aF
 rw[if_pos he]
 simp[gW]
def ai0(W0:World)(X:bD)(n lo hi q:Nat)(sl:Int)(e:Ending)(w':World):Prop:=∃(J:mE) (s:Pc),e= .returned (.tuple #[.pointer (some ⟨J.ps,0,none⟩), .int .i64 0])∧s.ar=[]∧J.n=sl∧J.I.X.pb=X.pb∧J.I.X.mp=X.mp∧J.I.X.P=X.P∧(J.I.n=n∧J.I.lo=lo∧J.I.hi=hi)∧xJ W0 w' J (hi-lo-1) (fun _=>0) (fun _ _=>0) (aV (fun _=>none) 1 (some qP)) [(1,0,1,0)] [1] [(1,0,(q:Int),1)] (dn (fun _=>none) 1 s) (fun _ _=>0)∧w'.heap[J.ps]? =some (.cells (gV J) 39 (0,0))
section
variable {W0 w:World} {J:mE} {c:Nat} {Q:Nat→Nat} {V:Nat→Nat→Int} {D:Int→Option Sp} {T:List Nd} {Qu:List Int} {Lb:List Nd} {G:Int→Option Pc}
theorem xJ.afZ(h:xJ W0 w J c Q V D T Qu Lb G fun _ _=>0)(hgd:bR Lb)(hN:(aD 1 Lb).isSome=true)(hG:G 1=none)(hc:c≠0)(hl:1≤aS Lb 1):Calls Tryz.prog 47 #[Gx J, .int .i64 1, .agg (ah z8)] w fun e w'=>e= .returned (.int .i64 0)∧KeepP w w'∧∃s,s.ar=[]∧xJ W0 w' J (c-1) Q V (aV D 1 (some qP)) T Qu (aF Lb 1 1) (dn G 1 s) (fun _ _=>0):=
 GJ rfl (A:=fun w'=>KeepP w w'∧∃s,s.ar=[]∧xJ W0 w' J (c-1) Q V (aV D 1 (some qP)) T Qu (aF Lb 1 1) (dn G 1 s) (fun _ _=>0))
  (fun _ hb=>((h.step hb).Qz hgd hN hG hc hl).mono fun _ _ ⟨h1,h2,h3⟩=>⟨h1,h2,(KeepP.below hb).trans (KeepP.of h2),h3⟩)
  (fun _ ⟨hk,s,hs,h1⟩=>h1.afY.mono fun _ _ ⟨he,h2,hk2⟩=>⟨he,hk.trans (KeepP.of hk2),s,hs,h2⟩)
set_option maxHeartbeats 8000000 in
theorem QI{X:bD}{n lo hi q:Nat}{Tp:List (Nat×Nat)}(ho:bX W0 w X (List.replicate (n*32) 0) R0)(hw:aM W0)(hl:lo<hi∧hi≤n)(hn:n≤1024)(hX:X.n=n)(hP:X.P=cu lo hi Tp)(hqq:1≤q∧q≤256)(hle:q≤hi-lo){tr:Nat}(htr:hi≤tr∧tr+3≤n){sl:Int}(hs:1≤sl∧sl≤8):
  Calls Tryz.prog 26 #[.pointer (some ⟨X.mp,0,none⟩), .pointer (some ⟨X.pb,0,none⟩), .int .i64 0, .agg #[.int .i64 (tr:Int), .int .i64 3], .agg #[.int .i64 (q:Int), .int .i64 sl]] w (ai0 W0 X n lo hi q sl):=by
 obtain⟨YT,etr⟩:∃x:Int,x=(tr:Int):=⟨_,rfl⟩
 have ETR:=Lib.hid etr
 obtain⟨q',eq'⟩:∃x:Int,x=(q:Int):=⟨_,rfl⟩
 have EQ:=Lib.hid eq'
 rw[←etr,←eq']
 have hq:mO q'=true:=uf.2 (by omega)
 have h:=ho.ask
 have h0:(X.n:Int)≠0:=by omega
 have h1:=Mt X.P 0
 generalize(iI X.P 0).1=a at h
 generalize(iI X.P 0).2=er at h h1
 generalize(X.n:Int)=nn at h h0
 have B1:=Lib.hid (ak w (DY YT 3) (pcO q' sl))
 have R1:=Lib.hid (heap_alloc2_old w (DY YT 3) (pcO q' sl))
 have X1:=Lib.hid (heap_alloc2_new w (DY YT 3) (pcO q' sl))
 have H:=Lib.hid h
 have IQ:=Lib.hid (fun V=>jM q' V hq)
 have d1:(nn==0)=false:=by simpa using h0
 have d2:(er==1)=false:=by simpa using h1
 have FT:Hid (∀V,Below w.heap.size w V→Calls Tryz.prog 69 #[.agg #[.int .i64 YT, .int .i64 3], .pointer (some ⟨X.mp,0,none⟩), .int .i64 sl] V fun e w'=>e= .returned (.bool true)∧Below V.heap.size V w'):=Lib.hid fun V hb=>by
  rw[etr]
  exact Yw (n:=X.n) ((ho.step hb).st.mem) (by omega) (by omega) sl (decide_eq_true (by omega))
 have ST:=Lib.hid (fun V=>Pg sl V hs)
 have NB:=Lib.hid (fun V=>Jw q' V (by have:=uf.1 hq;unfold zq;exact decide_eq_true (by omega)))
 have HH:=Lib.hid (And.intro hl (And.intro hn (And.intro hX (And.intro hP (And.intro hqq (And.intro hle (And.intro htr hs)))))))
 have OP:=Lib.hid ho
 have HW:=Lib.hid hw
 clear ho hw hl hn hX hP hqq hle htr hs etr eq'
 clear h h0 h1 hq
 go_enter Tryz.func26,Tryz.ntmps26
 go_wp2_with fail
 refine(H.out.own _ B1.out).mono ?_
 rintro e w2 ⟨rfl,hb⟩
 have B2:=Lib.hid (B1.out.trans (hb.mono B1.out.size))
 have R2:=Lib.hid (below_block hb R1.out)
 have X2:=Lib.hid (below_block hb X1.out)
 clear hb
 go_wp2_with fail
 refine(H.out.frm w2 B2.out).mono ?_
 rintro e w3 ⟨rfl,hb⟩
 have B3:=Lib.hid (B2.out.trans (hb.mono B2.out.size))
 have R3:=Lib.hid (below_block hb R2.out)
 have X3:=Lib.hid (below_block hb X2.out)
 clear hb
 have q0:w3.cell? ⟨w.heap.size+1,0,none⟩=some (.int .i64 q'):=by rw[cell_of_row w3 _ 0 _ _ _ X3.out];rfl
 have q1:w3.cell? ⟨w.heap.size+1,1,none⟩=some (.int .i64 sl):=by rw[cell_of_row w3 _ 1 _ _ _ X3.out];rfl
 have r0:w3.cell? ⟨w.heap.size,0,none⟩=some (.int .i64 YT):=by rw[cell_of_row w3 _ 0 _ _ _ R3.out];rfl
 have r1:w3.cell? ⟨w.heap.size,1,none⟩=some (.int .i64 3):=by rw[cell_of_row w3 _ 1 _ _ _ R3.out];rfl
 go_wp2_with fail
 refine(IQ.out w3).mono ?_
 rintro e w4 ⟨rfl,rfl⟩
 go_wp2_with fail
 refine(FT.out w4 B3.out).mono ?_
 rintro e w5 ⟨rfl,hb⟩
 have B5:=Lib.hid (B3.out.trans (hb.mono B3.out.size))
 have X5:=Lib.hid (below_block hb X3.out)
 have R5:=Lib.hid (below_block hb R3.out)
 clear hb q0 q1 r0 r1
 have q0:w5.cell? ⟨w.heap.size+1,0,none⟩=some (.int .i64 q'):=by rw[cell_of_row w5 _ 0 _ _ _ X5.out];rfl
 have q1:w5.cell? ⟨w.heap.size+1,1,none⟩=some (.int .i64 sl):=by rw[cell_of_row w5 _ 1 _ _ _ X5.out];rfl
 go_wp2_with fail
 refine(ST.out w5).mono ?_
 rintro e w6 ⟨⟨tb,tm,P,rfl,hT,ht1,ht2⟩,hb⟩
 have B6:=Lib.hid (B5.out.trans (hb.mono B5.out.size))
 have X6:=Lib.hid (below_block hb X5.out)
 have R6:=Lib.hid (below_block hb R5.out)
 have T6:=Lib.hid (And.intro hT (And.intro ht1 ht2))
 clear hT ht1 ht2 hb q0 q1
 have q0:w6.cell? ⟨w.heap.size+1,0,none⟩=some (.int .i64 q'):=by rw[cell_of_row w6 _ 0 _ _ _ X6.out];rfl
 go_wp2_with fail
 refine(NB.out w6).mono ?_
 rintro e w7 ⟨⟨bb,bm,Pb,rfl,hB,hb1,hb2⟩,hb⟩
 have B7:=Lib.hid (B6.out.trans (hb.mono B6.out.size))
 have X7:=Lib.hid (below_block hb X6.out)
 have R7:=Lib.hid (below_block hb R6.out)
 have T7:=Lib.hid (T6.out.1.later hb)
 have hm6:=(T6.out.1).lt (k:=tm) (Or.inl rfl)
 have SP:Hid (Calls Tryz.prog 72 #[.pointer (some ⟨X.mp,0,none⟩), .pointer (some ⟨X.pb,0,none⟩), .int .i64 0, .pointer (some ⟨bb,0,none⟩)] w7 (afG W0 w7 X n lo hi bb q (fun k=>if k=tm then w7.heap[tm]? else none))):=Lib.hid (by
  have hx:=OP.out.st.lt X.mb (Or.inl (Or.inr (Or.inl rfl)))
  have hx2:=OP.out.below.size
  have hm5:=T6.out.2.2 tm (Or.inl rfl)
  have h65:=B5.out.size
  have hb6:=hb1
  have Oj:=hb2 bm (Or.inl rfl)
  have h66:=B6.out.size
  refine aaQ (fun k o hk=>?_) (OP.out.step B7.out) HW.out HH.out.1 HH.out.2.1 HH.out.2.2.1 HH.out.2.2.2.1 HH.out.2.2.2.2.2.1 (by rw[←EQ.out];exact hB) (by omega) (fun i p hp=>?_) (by omega)
  ·by_cases e:k=tm
   ·subst e
    rw[if_pos rfl]at hk
    refine⟨hk,?_,by omega,by omega⟩
    obtain⟨es,ck,hm⟩:=T7.out.map.isMap
    rw[hm]at hk
    cases hk;rfl
   ·rw[if_neg e]at hk;cases hk
  ·have:=hb2 p (Or.inr ⟨i,hp⟩);omega)
 clear hB hb1 hb2 hb q0 hm6
 go_wp2_with fail
 refine SP.out.mono ?_
 rintro e w8 ⟨I,rfl,hX,hbb,hn,hlo,hhi,hfm,hbl,hb,hss⟩
 have B8:=Lib.hid (B7.out.trans (hb.mono B7.out.size))
 have R8:=Lib.hid (below_block hb R7.out)
 have T8:=Lib.hid (T7.out.later hb)
 have HI:=Lib.hid (And.intro hX (And.intro hbb (And.intro hn (And.intro hlo (And.intro hhi (And.intro hfm hbl))))))
 have FM8:Hid (w8.heap[tm]? =w7.heap[tm]?):=Lib.hid (hb.block _ (T7.out.lt (Or.inl rfl)))
 clear hX hbb hn hlo hhi hfm hbl hb hss
 have r0:w8.cell? ⟨w.heap.size,0,none⟩=some (.int .i64 YT):=by rw[cell_of_row w8 _ 0 _ _ _ R8.out];rfl
 have QN:=Lib.hid (fun V=>Zx V)
 have hbl:=Yy
 have SZ:Hid (w8.heap.size+1≤(w8.alloc GU).drew.heap.size):=Lib.hid (by simp)
 go_upto_region 15 with fail
 have RL:=Lib.hid (fun V (hb:Below w8.heap.size w8 V)=>show V.cell? ⟨w.heap.size,0,none⟩=some (.int .i64 YT) by rw[cell_of_row V _ 0 _ _ _ (below_block hb R8.out)];rfl)
 go_cut [17] (fun v17 wx=>∃b qb,v17= .pointer (some ⟨b,0,none⟩)∧wx.heap[b]? =some (.cells #[.pointer (some ⟨tb,0,none⟩), .pointer (some ⟨X.mp,0,none⟩), .int .i64 YT, .pointer (some ⟨bb,0,none⟩), .pointer (some ⟨I.ss,0,none⟩), .pointer (some ⟨qb,0,none⟩)] 37 (0,0))∧xI wx qb []∧w8.heap.size≤qb∧Below w8.heap.size w8 wx)
 case first=>
  go_region_held3 (fun V=>V.cell? ⟨w.heap.size,0,none⟩=some (.int .i64 YT)) (first
    |with_reducible exact RL.out _ UJ.out
    |with_reducible exact RL.out w9 B9.out
    |with_reducible exact RL.out _ (Below.refl _ _).drew
    |with_reducible exact RL.out _ ((Below.refl _ _).alloc (Nat.le_refl _) _).drew
    |with_reducible exact RL.out _ ((Below.refl _ _).alloc (Nat.le_refl _) _)
    |with_reducible exact RL.out _ (B9.out.alloc B9.out.size _)
    |with_reducible exact RL.out _ (Below.refl _ _))
   (first
    |((go_at_call 73;with_reducible refine(QN.out w8.drew).mono ?_);rintro e w9 ⟨qb,rfl,hq,hge,hb⟩;have B9:Hid (Below w8.heap.size w8 w9):=Lib.hid ((Below.refl _ _).drew.trans hb);have Q9:=Lib.hid (And.intro hq (show w8.heap.size≤qb from hge));clear hb hq hge)
    |((go_at_call 73;with_reducible refine(QN.out (w8.alloc GU).drew).mono ?_);rintro e w9 ⟨qb,rfl,hq,hge,hb⟩;have B9:Hid (Below w8.heap.size w8 w9):=Lib.hid (((Below.refl w8.heap.size w8).alloc (Nat.le_refl _) GU).drew.trans (hb.mono ((Below.refl w8.heap.size w8).alloc (Nat.le_refl _) GU).drew.size));have E9:Hid (w9.heap[w8.heap.size]? =some GU):=Lib.hid (below_block hb (heap_alloc_new w8 _));have Q9:=Lib.hid (And.intro hq (Nat.le_trans SZ.out hge));have f0:=frozen_of_row _ w8.heap.size 0 _ _ E9.out;have f1:=frozen_of_row _ w8.heap.size 1 _ _ E9.out;have f2:=frozen_of_row _ w8.heap.size 2 _ _ E9.out;have f3:=frozen_of_row _ w8.heap.size 3 _ _ E9.out;have f4:=frozen_of_row _ w8.heap.size 4 _ _ E9.out;have f5:=frozen_of_row _ w8.heap.size 5 _ _ E9.out;have UJ:=Lib.hid (Oz (.pointer (some ⟨tb,0,none⟩)) (.pointer (some ⟨X.mp,0,none⟩)) (.int .i64 YT) (.pointer (some ⟨bb,0,none⟩)) (.pointer (some ⟨I.ss,0,none⟩)) (.pointer (some ⟨qb,0,none⟩)) B9.out (Nat.le_refl _));obtain⟨e0,e1,e2,e3,e4,e5⟩:=ahZ E9.out;clear hb hq hge))
  all_goals
   go_wp2_with fail
   go_meet
   case rel=>first|have TF:=E9.out;exact⟨_,qb,rfl,Ur _ _ _ _ _ _ TF,Q9.out.1.kept (OD _ _ _ _ _ _ _ _) (fun e=>by have h1:=Q9.out.2;have h2:=Option.some.inj e;omega),Nat.le_of_succ_le Q9.out.2,UJ.out⟩|exact⟨_,qb,rfl,heap_alloc_new w9 _,Q9.out.1.below (Below.alloc (Below.refl _ _) (Nat.le_refl _) _),Q9.out.2,B9.out.alloc B9.out.size _⟩
 case rest=>
  obtain⟨b,qb,rfl,hx,hq,hge,hb⟩:=hcut
  obtain⟨w9,hw9⟩:∃w9,w9=wc:=⟨_,rfl⟩
  rw[←hw9]at hx hq hb ⊢
  clear hw9 r0 RL QN
  have PB:Hid (xJ W0 w9 ⟨0,tb,qb,tr,sl,I⟩ (hi-lo) (fun _=>0) (fun _ _=>0) (fun _=>none) [(1,0,1,0)] [] [(1,0,(q:Int),0)] (fun _=>none) (fun _ _=>0)):=Lib.hid (by
   have h7:=HI.out.2.2.2.2.2.2.step hb
   have w1:=OP.out.below.size
   have w2:=B5.out.size
   have w3:=B8.out.size
   have t1:=T6.out.2.1
   refine⟨⟨I.fm,I.X.kw,tm,P,h7,T8.out.later hb,?_,fun k hk=>?_,fun p k _ _ _=>?_⟩,hq,by show W0.heap.size≤qb;omega,⟨?_,fun p h1 h2=>?_⟩⟩
   ·rw[HI.out.2.2.2.2.2.1]
    obtain⟨es,ck,hm⟩:=T7.out.map.isMap
    show(if tm=tm then w7.heap[tm]? else none).isSome=true
    rw[if_pos rfl,hm];rfl
   ·rcases hk with hk|hk
    ·have:k=tb:=hk;omega
    ·have:=T6.out.2.2 k hk;omega
   ·rw[HI.out.1]
   ·show I.hi≤tr;rw[HI.out.2.2.2.2.1];exact HH.out.2.2.2.2.2.2.1.1
   ·show tr+(p-1).toNat/3<I.n
    rw[HI.out.2.2.1]
    have h3:p≤sl:=h2
    have h4:=HH.out.2.2.2.2.2.2
    omega)
  have X9:Hid (w9.heap[b]? =some (.cells (gV ⟨0,tb,qb,tr,sl,I⟩) 37 (0,0))):=Lib.hid (by
   show w9.heap[b]? =some (.cells #[.pointer (some ⟨tb,0,none⟩), .pointer (some ⟨I.X.mp,0,none⟩), .int .i64 (tr:Int), .pointer (some ⟨I.bb,0,none⟩), .pointer (some ⟨I.ss,0,none⟩), .pointer (some ⟨qb,0,none⟩)] 37 (0,0))
   rw[HI.out.1,HI.out.2.1,←ETR.out]
   exact hx)
  have OZ:=Lib.hid (PB.out.afZ (Us (by have:=HH.out;omega)) rfl rfl (by have:=HH.out;omega) (by rw[zf];have:=HH.out;omega))
  rw[zY (by have:=HH.out;omega)]at OZ
  clear hx hq hge hb
  go_wp2_with(refine bP iD rfl (.tmp 17) rfl b rfl (gV ⟨0,tb,qb,tr,sl,I⟩) X9.out rfl ?_)
  refine OZ.out.mono ?_
  rintro e w10 ⟨rfl,hk,s,hs,hp⟩
  have PD:=Lib.hid hp
  have SA:=Lib.hid hs
  have X10:=Lib.hid (hk.box X9.out (by decide))
  clear hp hk hs
  go_upto_region 19 with fail
  have LC:Hid (∀V,KeepP w10 V→V.cell? ⟨b,0,none⟩=some (.pointer (some ⟨tb,0,none⟩))∧V.cell? ⟨b,1,none⟩=some (.pointer (some ⟨I.X.mp,0,none⟩))∧V.cell? ⟨b,2,none⟩=some (.int .i64 (tr:Int))∧V.cell? ⟨b,3,none⟩=some (.pointer (some ⟨I.bb,0,none⟩))∧V.cell? ⟨b,4,none⟩=some (.pointer (some ⟨I.ss,0,none⟩))∧V.cell? ⟨b,5,none⟩=some (.pointer (some ⟨qb,0,none⟩))):=Lib.hid fun V hk=>dA (hk.box X10.out (by decide))
  have PU:Hid (∀V,Below w10.heap.size w10 V→Calls Tryz.prog 58 #[.pointer (some ⟨qb,0,none⟩), .int .i64 1] V fun e w'=>e= .returned (.int .i64 0)∧xJ W0 w' ⟨0,tb,qb,tr,sl,I⟩ (hi-lo-1) (fun _=>0) (fun _ _=>0) (aV (fun _=>none) 1 (some qP)) [(1,0,1,0)] [1] [(1,0,(q:Int),1)] (dn (fun _=>none) 1 s) (fun _ _=>0)∧KeepP V w'):=Lib.hid fun V hb=>(Bz qb [] 1 V (PD.out.step hb).yX).mono fun e w' ⟨he,t⟩=>⟨he,(PD.out.step hb).byQ t,t.zW (PD.out.step hb).yX⟩
  obtain⟨c0,c1,c2,c3,c4,c5⟩:=LC.out w10 (KeepP.refl _)
  have hps:=Yz
  go_region_held3 (fun V=>V.cell? ⟨b,0,none⟩=some (.pointer (some ⟨tb,0,none⟩))∧V.cell? ⟨b,1,none⟩=some (.pointer (some ⟨I.X.mp,0,none⟩))∧V.cell? ⟨b,2,none⟩=some (.int .i64 (tr:Int))∧V.cell? ⟨b,3,none⟩=some (.pointer (some ⟨I.bb,0,none⟩))∧V.cell? ⟨b,4,none⟩=some (.pointer (some ⟨I.ss,0,none⟩))∧V.cell? ⟨b,5,none⟩=some (.pointer (some ⟨qb,0,none⟩))) (first
    |with_reducible exact LC.out w11 K11.out
    |with_reducible exact LC.out _ (K11.out.trans (KeepP.below (Below.alloc (Below.refl _ _) (Nat.le_refl _) _)))
    |with_reducible exact LC.out _ (KeepP.below (Below.refl _ _).drew)
    |with_reducible exact LC.out _ (KeepP.below ((Below.refl _ _).alloc (Nat.le_refl _) _).drew)
    |with_reducible exact LC.out _ (KeepP.below ((Below.refl _ _).alloc (Nat.le_refl _) _)))
   (first
    |((go_at_call 58;with_reducible refine(PU.out w10.drew (Below.refl _ _).drew).mono ?_);rintro e w11 ⟨rfl,hp,hk⟩;have K11:Hid (KeepP w10 w11):=Lib.hid ((KeepP.below (Below.refl _ _).drew).trans hk);have P11:=Lib.hid hp;clear hp hk)
    |((go_at_call 58;with_reducible refine(PU.out (w10.alloc (psO tb I.X.mp (tr:Int) I.bb I.ss qb)).drew ((Below.refl _ _).alloc (Nat.le_refl _) _).drew).mono ?_);rintro e w11 ⟨rfl,hp,hk⟩;have K11:Hid (KeepP w10 w11):=Lib.hid ((KeepP.below ((Below.refl w10.heap.size w10).alloc (Nat.le_refl _) (psO tb I.X.mp (tr:Int) I.bb I.ss qb)).drew).trans hk);have P11:=Lib.hid hp;have Z11:=Lib.hid (hk.box (show(w10.alloc (psO tb I.X.mp (tr:Int) I.bb I.ss qb)).drew.heap[w10.heap.size]? =some (psO tb I.X.mp (tr:Int) I.bb I.ss qb)from heap_alloc_new w10 _) (by decide));clear hp hk))
  all_goals
   go_wp2_with fail
   go_ret2
   have h1:I.X.pb=X.pb:=by rw[HI.out.1]
   have h2:I.X.mp=X.mp:=by rw[HI.out.1]
   have h3:I.X.P=X.P:=by rw[HI.out.1];rfl
   first
    |have hZ:=Z11.out;exact⟨⟨w10.heap.size,tb,qb,tr,sl,I⟩,s,rfl,SA.out,rfl,h1,h2,h3,⟨HI.out.2.2.1,HI.out.2.2.2.1,HI.out.2.2.2.2.1⟩,P11.out.ps,hZ⟩
    |exact⟨⟨w11.heap.size,tb,qb,tr,sl,I⟩,s,rfl,SA.out,rfl,h1,h2,h3,⟨HI.out.2.2.1,HI.out.2.2.2.1,HI.out.2.2.2.2.1⟩,(P11.out.step (Below.alloc (Below.refl _ _) (Nat.le_refl _) _)).ps,heap_alloc_new w11 _⟩
end
end
end Go.Proofs.YtammlljefhakmaaGreatDoor
