/- Helps of the proof. No condition. -/
import Derived.Test.YtammlljefhakmaaGreatDoorIK
namespace Go.Proofs.YtammlljefhakmaaGreatDoor
open Go.RowKit Go.Maps
set_option maxRecDepth 100000
section
def adY(t:TypeId):Prop:=Ol t∧t≠76∧t≠166∧t≠204∧t≠39
instance(t:TypeId):Decidable (adY t):=by unfold adY;infer_instance
section
variable {W0 w:World} {J:mE} {q c:Nat} {D:Int→Option Sp} {T:List Nd} {Qu:List Int} {Lb:List Nd} {G:Int→Option Pc} {rg:Int→Nat→Int}
theorem dK.own{w':World}{x:Nat}{cs:Array Value}{t:TypeId}{z:Nat×Nat}(h:dK W0 w J q c D T Qu Lb G rg)(hx:w.heap[x]? =some (.cells cs t z))(ht:adY t)(hn:W0.heap.size≤x)(ho:Only w w' (fun k=>k=x)):dK W0 w' J q c D T Qu Lb G rg:=by
 obtain⟨fm,kw,m,P,Q,V,h1,h2,h3,h4,h5⟩:=h.ex
 have key:∀{k:Nat} {o:Obj},w.heap[k]? =some o→kindOf o≠some t→k≠x:=fun {k o} hk hne e=>by
  rw[e,hx]at hk
  cases hk
  exact hne rfl
 have hT:TabAt w' J.tb m J.n P T:=h2.kept (ho.block _ (lt_of_block h2.box) (key h2.box (by simp only[Zl,kindOf];exact fun e=>ht.2.2.2.1 (Option.some.inj e).symm))) fun k hk=>ho.block _ (h2.lt hk) (by
  rcases hk with rfl|⟨i,hi⟩
  ·obtain⟨es,ck,hm⟩:=h2.map.isMap
   exact key hm (by simp[kindOf])
  ·obtain⟨x,_,hx⟩:=h2.proc hi
   exact key hx (by simp only[DT,kindOf];exact fun e=>ht.2.1 (Option.some.inj e).symm))
 have hf:∀k o,fm k=some o→w'.heap[k]? =some o∧tL o=true∧(fm k).isSome=true:=fun k o hk=>by
  have e1:=h1.frozen (m:=k) (by show(fm k).isSome=true;rw[hk];rfl)
  rw[show(J.I.re fm kw).fm k=fm k from rfl,hk]at e1
  obtain⟨W,Pb,k1,_⟩:=h1.bl
  obtain⟨_,hm⟩:=k1.fm.at_ k o hk
  refine⟨ho.kept e1 (key e1 ?_),hm,by rw[hk];rfl⟩
  cases o<;>simp_all [tL,kindOf]
 obtain⟨A,hd,r,B⟩:=h.yX.ex
 exact⟨⟨fm,kw,m,P,Q,V,h1.far ho (fun k hk=>by rw[hk];exact hn) (fun k hk=>by rw[hk];exact wY.cells hx ht.1) hf,hT,h3,h4,h5⟩,⟨h.yX.good,A,hd,r,B.len,B.top,B.many,ho.kept B.box (key B.box (by simp only[kindOf];exact fun e=>ht.2.2.1 (Option.some.inj e).symm))⟩,h.nq,h.tr⟩
end
theorem EB(args:Array Value)(W:World):(callFunc 60 args).run Tryz.prog W= .ok (.enter 60 args) W:=enters Tryz.func60 rfl rfl args W
theorem Yv{w:World}{bl bp:Nat}{b:Bool}{p:Int}(hx:w.heap[bl]? =some (.cells #[.bool b] 4 (0,0)))(hy:w.heap[bp]? =some (.cells #[.int .i64 p] 3 (0,0))):Calls Tryz.prog 60 #[.int .i64 p, .pointer (some ⟨bl,0,none⟩), .pointer (some ⟨bp,0,none⟩)] w fun e w'=>e= .returned (.tuple #[])∧w.grownBy w' (some bl)∧w'.heap[bl]? =some (.cells #[.bool true] 4 (0,0)):=by
 have x0:w.cell? ⟨bl,0,none⟩=some (.bool b):=by rw[cell_of_row w bl 0 _ _ _ hx];rfl
 have f0:=frozen_of_row w bl 0 _ _ hx
 have y0:w.cell? ⟨bp,0,none⟩=some (.int .i64 p):=by rw[cell_of_row w bp 0 _ _ _ hy];rfl
 have HX:=Lib.hid hx
 have HS:=Lib.hid (heap_setCell_same w bl 0 _ _ (.bool true) hx)
 clear hx hy
 cases b
 all_goals
  go_enter Tryz.func60,Tryz.ntmps60
  go_wp2
  go_end0
  exact⟨rfl,ku (grownBy_setCell w bl 0 (.bool true)) rfl rfl rfl rfl,HS.out⟩
end
section
section
variable {W0 w:World} {J:mE} {q c:Nat} {D:Int→Option Sp} {T:List Nd} {Qu:List Int} {Lb:List Nd} {G:Int→Option Pc} {rg:Int→Nat→Int}
def wtQ(J:mE)(T:List Nd)(Qu:List Int)(p:Int):List Int:=if iZ J.n T p=[]then gu Qu p else Qu
set_option maxHeartbeats 4000000 in
theorem dY.wait(h:dY W0 w J q c D T Qu Lb G rg){p:Int}(hi:I64 p):
  Calls Tryz.prog 17 #[.pointer (some ⟨J.ps,0,none⟩), .int .i64 p] w fun e w'=>e= .returned (.int .i64 (fV T p))∧KeepP w w'∧((fV T p≠0∧dY W0 w' J q c D T Qu Lb G rg)∨(fV T p=0∧dY W0 w' J q c D (fZ J.n T p) (wtQ J T Qu p) Lb G (rX rg (iZ J.n T p)))):=by
 have pE:∀(fn:Fn) (first cap:Array Value) (w:World),(Instr.makeFunc fn first cap).run Tryz.prog w= .ok (.func fn first cap) w:=fun _ _ _ _=>rfl
 have B1:=Lib.hid (Below.alloc (Below.refl w.heap.size w) (Nat.le_refl _) (.cells #[.int .i64 p] 3))
 have Y1:=Lib.hid (heap_alloc_new w (.cells #[.int .i64 p] 3))
 have MD:=Lib.hid (oq (below_block B1.out h.box))
 have H:=Lib.hid h
 obtain⟨er,her⟩:∃er,er=fV T p:=⟨_,rfl⟩
 have HE:=Lib.hid her
 rw[←her]
 obtain⟨R,hR⟩:∃R,R=iZ J.n T p:=⟨_,rfl⟩
 have HR:=Lib.hid hR
 obtain⟨L,hL⟩:∃L,L=fZ J.n T p:=⟨_,rfl⟩
 have HL:=Lib.hid hL
 rw[←hR,←hL]
 clear h her hR hL
 go_enter Tryz.func17,Tryz.ntmps17
 go_wp2_with fail
 refine MD.out.mono ?_
 rintro e w2 ⟨rfl,hb⟩
 have B2:=Lib.hid (B1.out.trans (hb.mono B1.out.size))
 have Y2:=Lib.hid (below_block hb Y1.out)
 clear hb
 have Z2:=Lib.hid (heap_alloc_new w2 GU)
 have B3:=Lib.hid (below_setRow (B2.out.alloc B2.out.size GU) B2.out.size (gV J))
 have X3:=Lib.hid (setRow_heap _ _ _ (gV J) _ _ Z2.out)
 have Y3:=Lib.hid (bU _ (gV J) (Nat.ne_of_lt (lt_of_block Y2.out)) ((heap_alloc_old _ GU (lt_of_block Y2.out)).trans Y2.out))
 have H3:=Lib.hid (H.out.step B3.out)
 have WT:=Lib.hid (H3.out.pc.afL p hi)
 rw[←HE.out]at WT
 obtain⟨c0, -⟩:=dA X3.out
 have y0:((w2.alloc GU).setRow w2.heap.size (gV J)).cell? ⟨w.heap.size,0,none⟩=some (.int .i64 p):=by rw[cell_of_row _ w.heap.size 0 _ _ _ Y3.out];rfl
 go_wp2_with(refine aH iD rfl (.tmp 5) (.tmp 10) rfl w2.heap.size (gV J) rfl rfl _ Z2.out rfl rfl (Gz J) ?_)
 refine WT.out.mono ?_
 rintro e w4 ⟨⟨v,rfl,hv⟩,h4,hk4⟩
 have X4:=Lib.hid (hk4.box X3.out (by decide))
 have Y4:=Lib.hid (hk4.box Y3.out (by decide))
 have K4:=Lib.hid ((KeepP.below B3.out).trans hk4)
 have P4:=Lib.hid h4
 have V4:=Lib.hid hv
 have BX4:=Lib.hid (hk4.box H3.out.box (by decide))
 clear c0 y0 h4 hk4 hv
 by_cases h0:er=0
 ·subst h0
  have e0:fV T p=0:=HE.out.symm
  have FT:=Lib.hid (H.out.fit.Ph e0)
  have hpq:p∈Qu:=(H.out.fit.row p).2 (ru e0).1
  have hnp:pI p=true:=xE (dh.num H.out.fit.good (Or.inl (ru e0).1)) H.out.fit.good.most.2
  have DE:Hid (oV Qu p=0):=Lib.hid (by unfold oV;rw[if_pos hnp,if_pos hpq])
  have B5:=Lib.hid (Below.alloc (Below.refl w4.heap.size w4) (Nat.le_refl _) (.cells #[.bool false] 4))
  have L5:=Lib.hid (heap_alloc_new w4 (.cells #[.bool false] 4))
  have X5:=Lib.hid (below_block B5.out X4.out)
  have Y5:=Lib.hid (below_block B5.out Y4.out)
  have K5:=Lib.hid (K4.out.trans (KeepP.below B5.out))
  have BX5:=Lib.hid (below_block B5.out BX4.out)
  have hW0:W0.heap.size≤w4.heap.size:=P4.out.below.size
  have LN:=Lib.hid (Mq (Qf:=fun _=>Qu) (R:=iZ J.n T p) (P4.out.step B5.out) (fun r hr=>(FT.out.1 r hr).1) (gN V4.out B5.out) (k:=60) (caps:=#[.pointer (some ⟨w4.heap.size,0,none⟩), .pointer (some ⟨w.heap.size,0,none⟩)]) EB (x:=w4.heap.size) (lt_of_block L5.out) (fun cs z e=>by rw[L5.out]at e;cases e) (Ex:=fun pre V=>V.heap[w4.heap.size]? =some (.cells #[.bool (!pre.isEmpty)] 4 (0,0))) L5.out (fun _ _ _ hk hx=>hk.box hx (by decide))
   (fun pre r V hr hK hP hx=>by
    rw[(FT.out.1 r hr).2]
    refine(Yv hx (hK.box Y5.out (by decide) (Nat.ne_of_lt (lt_of_block Y4.out)))).mono ?_
    rintro e w' ⟨he,hg,hb⟩
    refine⟨he,⟨hg.size,fun hk _ hne=>(hg.block _ (lt_of_block hk) (fun e=>hne (Option.some.inj e))).trans hk⟩,hP.own hx (by decide) hW0 (Only.grown hg rfl),?_⟩
    rw[hb]
    cases pre<;>rfl))
  clear e0 hpq hnp hW0
  have WQ:Hid (wtQ J T Qu p=if iZ J.n T p=[]then gu Qu p else Qu):=Lib.hid rfl
  rw[←HR.out]at WQ FT LN
  rw[←HL.out]at FT LN
  clear HR HL
  go_wp2_with(refine bP iD rfl (.tmp 5) rfl w2.heap.size rfl (gV J) X5.out rfl ?_)
  refine LN.out.mono ?_
  rintro e w8 ⟨rfl,hk8,h8,hx8⟩
  have P8:=Lib.hid h8
  have K8:Hid (KeepP w w8):=Lib.hid ⟨Nat.le_trans K5.out.size hk8.size,fun hk ht=>hk8.box (K5.out.box hk ht) ht (fun e=>by have:=lt_of_block hk;have:=K4.out.size;omega)⟩
  have BX8:=Lib.hid (hk8.box BX5.out (by decide) (Nat.ne_of_lt (lt_of_block BX4.out)))
  have X8:=Lib.hid (hk8.box X5.out (by decide) (Nat.ne_of_lt (lt_of_block X4.out)))
  have Y8:=Lib.hid (hk8.box Y5.out (by decide) (Nat.ne_of_lt (lt_of_block Y4.out)))
  have x0:w8.cell? ⟨w4.heap.size,0,none⟩=some (.bool (!R.isEmpty)):=by rw[cell_of_row w8 w4.heap.size 0 _ _ _ hx8];rfl
  clear hk8 h8 hx8
  cases R with
  |nil=>
   have DQ:=Lib.hid (P8.out.abN p)
   rw[DE.out]at DQ
   obtain⟨-, -, -, -, -,c5⟩:=dA X8.out
   have y0:w8.cell? ⟨w.heap.size,0,none⟩=some (.int .i64 p):=by rw[cell_of_row w8 w.heap.size 0 _ _ _ Y8.out];rfl
   rw[show(!List.isEmpty ([]:List Rp))=false from rfl]at x0
   go_wp2_with fail
   refine DQ.out.mono ?_
   rintro e w9 ⟨rfl,h9,hk9⟩
   have K9:=Lib.hid (K8.out.trans hk9)
   have BX9:=Lib.hid (hk9.box BX8.out (by decide))
   have P9:Hid (dK W0 w9 J q c D L (wtQ J T Qu p) Lb G (rX rg [])):=Lib.hid (by rw[WQ.out,if_pos trivial];exact h9)
   clear h9 hk9
   go_wp2_with fail
   go_ret
   exact⟨rfl,K9.out,⟨P9.out,by rw[WQ.out];exact FT.out.2,BX9.out⟩⟩
  |cons r R=>
   rw[show(!List.isEmpty (r::R))=true from rfl]at x0
   have P9:Hid (dK W0 w8 J q c D L (wtQ J T Qu p) Lb G (rX rg (r::R))):=Lib.hid (by rw[WQ.out,if_neg (by simp)];exact P8.out)
   go_wp2_with fail
   go_ret
   exact⟨rfl,K8.out,⟨P9.out,by rw[WQ.out];exact FT.out.2,BX8.out⟩⟩
 ·have d3:(er !=0)=true:=by simpa using h0
  have e2:L=T:=by rw[HL.out];unfold fZ;rw[if_neg (by rw[←HE.out];exact h0)]
  have P5:Hid (dY W0 w4 J q c D T Qu Lb G rg):=Lib.hid ⟨by have:=P4.out;rwa [←HL.out,e2]at this,H.out.fit,BX4.out⟩
  clear e2
  go_wp2_with fail
  go_ret
  exact⟨rfl,K4.out,Or.inl ⟨h0,P5.out⟩⟩
end
end
section
theorem abQ(a0 a1 a2 a3 a4 a5:Value)(w:World):(Instr.field 37 (.agg #[a0,a1,a2,a3,a4,a5]) 0).run Tryz.prog w= .ok a0 w:=by kernel_rfl
theorem abR(a0 a1 a2 a3 a4 a5:Value)(w:World):(Instr.field 37 (.agg #[a0,a1,a2,a3,a4,a5]) 3).run Tryz.prog w= .ok a3 w:=by kernel_rfl
theorem abS(a0 a1 a2 a3 a4 a5:Value)(w:World):(Instr.field 37 (.agg #[a0,a1,a2,a3,a4,a5]) 4).run Tryz.prog w= .ok a4 w:=by kernel_rfl
theorem Mr(a0 a1 a2 a3 a4 a5:Value)(w:World):(Instr.field 37 (.agg #[a0,a1,a2,a3,a4,a5]) 5).run Tryz.prog w= .ok a5 w:=by kernel_rfl
theorem jN.turn{n:Int}{T:List Nd}{Qu:List Int}{Lb:List Nd}{G:Int→Option Pc}(h:jN n T Qu Lb G):jN n T (oW Qu).2 Lb G:=
 ⟨h.good,h.wh,fun i=>by
  rw[←h.row i]
  cases Qu with
  |nil=>rfl
  |cons a r=>simp[oW];exact or_comm,h.iK,h.con⟩
section
variable {W0 w:World} {J:mE} {q c:Nat} {D:Int→Option Sp} {T:List Nd} {Qu:List Int} {Lb:List Nd} {G:Int→Option Pc} {rg:Int→Nat→Int}
theorem dY.made(h:dY W0 w J q c D T Qu Lb G rg):Calls Tryz.prog 39 #[.pointer (some ⟨J.ps,0,none⟩)] w fun e w'=>e= .returned (.agg #[.pointer (some ⟨J.tb,0,none⟩), .pointer (some ⟨J.I.X.mp,0,none⟩), .int .i64 (J.tr:Int), .pointer (some ⟨J.I.bb,0,none⟩), .pointer (some ⟨J.I.ss,0,none⟩), .pointer (some ⟨J.qb,0,none⟩)])∧Below w.heap.size w w':=oq h.box
theorem dY.turn(h:dY W0 w J q c D T Qu Lb G rg):Calls Tryz.prog 15 #[.pointer (some ⟨J.ps,0,none⟩)] w fun e w'=>e= .returned (.tuple #[])∧dY W0 w' J q c D T (oW Qu).2 Lb G rg∧KeepP w w':=by
 have MD:=Lib.hid h.made
 have H:=Lib.hid h
 clear h
 have hfl:=Mr
 go_enter Tryz.func15,Tryz.ntmps15
 go_wp2_with fail
 refine MD.out.mono ?_
 rintro e w2 ⟨rfl,hb⟩
 have H2:=Lib.hid (H.out.step hb)
 have K2:=Lib.hid (KeepP.below hb)
 clear hb
 go_wp2_with fail
 refine H2.out.pc.afM.mono ?_
 rintro e w3 ⟨rfl,h3,hk⟩
 have P3:Hid (dY W0 w3 J q c D T (oW Qu).2 Lb G rg):=Lib.hid ⟨h3,H2.out.fit.turn,hk.box H2.out.box (by decide)⟩
 have K3:=Lib.hid (K2.out.trans hk)
 clear h3 hk
 go_wp2_with fail
 go_end0
 exact⟨rfl,P3.out,K3.out⟩
theorem dY.all(h:dY W0 w J q c D T Qu Lb G rg):Calls Tryz.prog 20 #[.pointer (some ⟨J.ps,0,none⟩)] w (Br w T):=by
 have MD:=Lib.hid h.made
 have H:=Lib.hid h
 clear h
 have hfl:=abQ
 go_enter Tryz.func20,Tryz.ntmps20
 go_wp2_with fail
 refine MD.out.mono ?_
 rintro e w2 ⟨rfl,hb⟩
 have B2:=Lib.hid hb
 have AL:Hid (Calls Tryz.prog 62 #[.pointer (some ⟨J.tb,0,none⟩)] w2 (Br w2 T)):=Lib.hid (by
  obtain⟨m,P,h1,_⟩:=(H.out.step hb).pc.byT
  exact Zt h1)
 clear hb
 go_wp2_with fail
 refine AL.out.mono ?_
 rintro e w3 ⟨v,rfl,ho,hb⟩
 have O3:=Lib.hid (pF ho B2.out.size)
 have B3:=Lib.hid (B2.out.trans (hb.mono B2.out.size))
 clear ho hb
 go_wp2_with fail
 go_ret
 exact⟨v,rfl,O3.out,B3.out⟩
theorem dY.row(h:dY W0 w J q c D T Qu Lb G rg):Calls Tryz.prog 21 #[.pointer (some ⟨J.ps,0,none⟩)] w (JY w Qu):=by
 have MD:=Lib.hid h.made
 have H:=Lib.hid h
 clear h
 have hfl:=Mr
 go_enter Tryz.func21,Tryz.ntmps21
 go_wp2_with fail
 refine MD.out.mono ?_
 rintro e w2 ⟨rfl,hb⟩
 have B2:=Lib.hid hb
 have AL:=Lib.hid (ZF J.qb Qu w2 (H.out.step hb).pc.yX)
 clear hb
 go_wp2_with fail
 refine AL.out.mono ?_
 rintro e w3 ⟨v,rfl,ho,hb⟩
 have O3:=Lib.hid (pF ho B2.out.size)
 have B3:=Lib.hid (B2.out.trans (hb.mono B2.out.size))
 clear ho hb
 go_wp2_with fail
 go_ret
 exact⟨v,rfl,O3.out,B3.out⟩
theorem dY.left(h:dY W0 w J q c D T Qu Lb G rg)(p:Int){d:Int}(hd:aS Lb p=d):Calls Tryz.prog 22 #[.pointer (some ⟨J.ps,0,none⟩), .int .i64 p] w fun e w'=>e= .returned (.int .i64 d)∧Below w.heap.size w w':=by
 have MD:=Lib.hid h.made
 have H:=Lib.hid h
 have HD:=Lib.hid hd
 clear h hd
 have hfl:=abR
 go_enter Tryz.func22,Tryz.ntmps22
 go_wp2_with fail
 refine MD.out.mono ?_
 rintro e w2 ⟨rfl,hb⟩
 have B2:=Lib.hid hb
 have LF:=Lib.hid ((H.out.step hb).pc.abO p HD.out)
 clear hb
 go_wp2_with fail
 refine LF.out.mono ?_
 rintro e w3 ⟨rfl,hb⟩
 have B3:=Lib.hid (B2.out.trans (hb.mono B2.out.size))
 clear hb
 go_wp2_with fail
 go_ret
 exact⟨rfl,B3.out⟩
theorem dY.spaces(h:dY W0 w J q c D T Qu Lb G rg):Calls Tryz.prog 23 #[.pointer (some ⟨J.ps,0,none⟩)] w fun e w'=>e= .returned (.pointer (some ⟨J.I.ss,0,none⟩))∧Below w.heap.size w w':=by
 have MD:=Lib.hid h.made
 clear h
 have hfl:=abS
 go_enter Tryz.func23,Tryz.ntmps23
 go_wp2_with fail
 refine MD.out.mono ?_
 rintro e w2 ⟨rfl,hb⟩
 have B2:=Lib.hid hb
 clear hb
 go_wp2_with fail
 go_ret
 exact⟨rfl,B2.out⟩
end
end
section
theorem abT{w:World}{b:Nat}{x:Nd}(h:w.heap[b]? =some (.cells (rP x) 76 (0,0))):w.cell? ⟨b,1,none⟩=some (.int .i64 x.2.1):=by
 rw[cell_of_row w b 1 _ _ _ h];rfl
section
variable {W0 w:World} {J:mE} {q c:Nat} {D:Int→Option Sp} {T:List Nd} {Qu:List Int} {Lb:List Nd} {G:Int→Option Pc} {rg:Int→Nat→Int}
def zX(T:List Nd)(rg:Int→Nat→Int)(p:Int):List Int:=if fA T p true=0 then Je rg p else z8
theorem Uq(T:List Nd)(rg:Int→Nat→Int)(p:Int):(zX T rg p).length=8:=by unfold zX;split<;>rfl
theorem jN.num{n:Int}(h:jN n T Qu Lb G){p:Int}{may:Bool}(he:fA T p may=0):1≤p∧p≤n:=by
 obtain⟨_,x,hx,_⟩:=tZ he
 exact(h.good.at_ hx).1
set_option maxHeartbeats 2000000 in
theorem dY.regs(h:dY W0 w J q c D T Qu Lb G rg){p:Int}(hi:I64 p):Calls Tryz.prog 14 #[.pointer (some ⟨J.ps,0,none⟩), .int .i64 p] w fun e w'=>e= .returned (.tuple #[.agg (ah (zX T rg p)), .int .i64 (fA T p true)])∧Below w.heap.size w w':=by
 have hz2:=Gw
 have B1:=Lib.hid (Below.alloc (Below.refl w.heap.size w) (Nat.le_refl _) (vX z8))
 have Y1:=Lib.hid (heap_alloc_new w (vX z8))
 have MD:=Lib.hid (oq (below_block B1.out h.box))
 have H:=Lib.hid h
 obtain⟨er,her⟩:∃er,er=fA T p true:=⟨_,rfl⟩
 have HE:=Lib.hid her
 obtain⟨R,hR⟩:∃R,R=zX T rg p:=⟨_,rfl⟩
 have HR:=Lib.hid hR
 obtain⟨x,hx⟩:∃x,x=lN T p true:=⟨_,rfl⟩
 have FI:=Lib.hid (fun V (hb:Below w.heap.size w V)=>(h.pc.step hb).find p hi true)
 rw[←her,←hx]at FI
 have LR:Hid (R.length=8):=Lib.hid (by rw[hR];exact Uq T rg p)
 rw[←her,←hR]
 clear h her hR hx
 go_enter Tryz.func14,Tryz.ntmps14
 go_wp2_with fail
 refine MD.out.mono ?_
 rintro e w2 ⟨rfl,hb⟩
 have B2:=Lib.hid (B1.out.trans (hb.mono B1.out.size))
 have Y2:=Lib.hid (below_block hb Y1.out)
 clear hb
 have Z2:=Lib.hid (heap_alloc_new w2 GU)
 have B3:=Lib.hid (below_setRow (B2.out.alloc B2.out.size GU) B2.out.size (gV J))
 have X3:=Lib.hid (setRow_heap _ _ _ (gV J) _ _ Z2.out)
 have Y3:=Lib.hid (bU _ (gV J) (Nat.ne_of_lt (lt_of_block Y2.out)) ((heap_alloc_old _ GU (lt_of_block Y2.out)).trans Y2.out))
 go_wp2_with(first|(refine aH iD rfl (.tmp 6) (.tmp 10) rfl w2.heap.size (gV J) rfl rfl _ Z2.out rfl rfl (Gz J) ?_)|(refine bP iD rfl (.tmp 6) rfl w2.heap.size rfl (gV J) X3.out rfl ?_))
 refine(FI.out _ B3.out).mono ?_
 rintro e w4 ⟨rfl,hb⟩
 have B4:=Lib.hid (B3.out.trans (hb.mono B3.out.size))
 have X4:=Lib.hid (below_block hb X3.out)
 have Y4:=Lib.hid (below_block hb Y3.out)
 clear hb
 have Z4:=Lib.hid (heap_alloc_new w4 yZ)
 have B5:=Lib.hid (below_setRow (B4.out.alloc B4.out.size yZ) B4.out.size (rP x))
 have X5:=Lib.hid (bU _ (rP x) (Nat.ne_of_lt (lt_of_block X4.out)) ((heap_alloc_old _ yZ (lt_of_block X4.out)).trans X4.out))
 have Y5:=Lib.hid (bU _ (rP x) (Nat.ne_of_lt (lt_of_block Y4.out)) ((heap_alloc_old _ yZ (lt_of_block Y4.out)).trans Y4.out))
 by_cases h0:er=0
 ·subst h0
  have LD:=Lib.hid (fun V (hb:Below w.heap.size w V)=>(H.out.pc.step hb).load (H.out.fit.num HE.out.symm))
  have eR:Je rg p=R:=by rw[HR.out];unfold zX;rw[if_pos HE.out.symm]
  rw[eR]at LD
  clear eR
  go_wp2_with(first|(refine aH tV rfl (.tmp 7) (.tmp 15) rfl w4.heap.size (rP x) rfl rfl _ Z4.out rfl rfl (rQ x) ?_)|(refine bP iD rfl (.tmp 6) rfl w2.heap.size rfl (gV J) X5.out rfl ?_))
  refine(LD.out _ B5.out).mono ?_
  rintro e w6 ⟨rfl,hb⟩
  have B6:=Lib.hid (B5.out.trans (hb.mono B5.out.size))
  have Y6:=Lib.hid (below_block hb Y5.out)
  clear hb
  go_wp2_with(refine aH vW rfl (.tmp 4) (.tmp 24) rfl w.heap.size (ah R) rfl rfl _ Y6.out (qw R LR.out) rfl (fJ R) ?_)
  exact bodyPost_ret (v:= .tuple #[.agg (ah R), .int .i64 0]) (zU vW Tryz.results14 _ _ w.heap.size (ah R) _ rfl rfl (setRow_heap _ _ _ _ _ _ Y6.out) (qw R LR.out)) rfl ⟨rfl,below_setRow B6.out (Nat.le_refl _) _⟩
 ·have d1:(er !=0)=true:=by simpa using h0
  have eR:R=z8:=by rw[HR.out];unfold zX;rw[if_neg (by rw[←HE.out];exact h0)]
  subst eR
  go_wp2_with(first|(refine aH tV rfl (.tmp 7) (.tmp 15) rfl w4.heap.size (rP x) rfl rfl _ Z4.out rfl rfl (rQ x) ?_)|(refine aH vW rfl (.tmp 4) (.tmp 19) rfl w.heap.size (ah z8) rfl rfl _ Y5.out rfl rfl (fJ z8) ?_))
  exact bodyPost_ret (v:= .tuple #[.agg (ah z8), .int .i64 er]) (zU vW Tryz.results14 _ _ w.heap.size (ah z8) _ rfl rfl (setRow_heap _ _ _ _ _ _ Y5.out) rfl) rfl ⟨rfl,below_setRow B5.out (Nat.le_refl _) _⟩
def DJ(T:List Nd)(p ch:Int):Int:=match aD ch T with
 |none=>4
 |some x=>if x.2.1=p then eY T ch else 4
set_option maxHeartbeats 2000000 in
theorem dY.kill(h:dY W0 w J q c D T Qu Lb G rg){p ch a:Int}(hi:I64 ch)(ha:0≤a∧a≤4294967295):Calls Tryz.prog 18 #[.pointer (some ⟨J.ps,0,none⟩), .int .i64 p, .int .i64 ch, .int .u32 a] w fun e w'=>e= .returned (.int .i64 (DJ T p ch))∧KeepP w w'∧((DJ T p ch≠0∧dY W0 w' J q c D T Qu Lb G rg)∨(DJ T p ch=0∧∃c' D' DX dO G' kS,dY W0 w' J q c' D' (iA J.n T ch a) DX dO G' kS∧ExR J T Qu Lb G D rg ch a D' DX dO G' kS)):=by
 have MD:=Lib.hid (oq h.box)
 have H:=Lib.hid h
 have FI:=Lib.hid (fun V (hb:Below w.heap.size w V)=>(h.pc.step hb).find ch hi true)
 have EX:=Lib.hid (fun V (hb:Below w.heap.size w V)=>(h.step hb).exit hi ha)
 have KE:(DJ T p ch=4∧fA T ch true=4∧lN T ch true=(0,0,0,0))∨∃x,fA T ch true=0∧lN T ch true=x∧((x.2.1≠p∧DJ T p ch=4)∨(x.2.1=p∧DJ T p ch=eY T ch)):=by
  unfold DJ lN fA JE
  cases hx:aD ch T with
  |none=>exact Or.inl ⟨rfl,rfl,rfl⟩
  |some x=>
   refine Or.inr ⟨x,rfl,rfl,?_⟩
   by_cases e:x.2.1=p
   ·exact Or.inr ⟨e,if_pos e⟩
   ·exact Or.inl ⟨e,if_neg e⟩
 clear h ha
 rcases KE with⟨k1,k2,k3⟩|⟨x,k1,k2,k3⟩
 ·rw[k2,k3]at FI
  rw[k1]
  clear k1 k2 k3
  go_enter Tryz.func18,Tryz.ntmps18
  go_wp2_with fail
  refine MD.out.mono ?_
  rintro e w2 ⟨rfl,hb⟩
  have B2:=Lib.hid hb
  clear hb
  go_wp2_with fail
  refine(FI.out w2 B2.out).mono ?_
  rintro e w3 ⟨rfl,hb⟩
  have B3:=Lib.hid (B2.out.trans (hb.mono B2.out.size))
  have Z3:=Lib.hid (heap_alloc_new w3 yZ)
  have B4:=Lib.hid (below_setRow (B3.out.alloc B3.out.size yZ) B3.out.size (rP (0,0,0,0)))
  have H4:=Lib.hid (H.out.step B4.out)
  clear hb
  go_wp2_with(refine aH tV rfl (.tmp 9) (.tmp 16) rfl w3.heap.size (rP (0,0,0,0)) rfl rfl _ Z3.out rfl rfl (rQ _) ?_)
  go_ret
  exact⟨rfl,KeepP.below B4.out,Or.inl ⟨by decide,H4.out⟩⟩
 ·rw[k1,k2]at FI
  clear k1 k2
  obtain⟨x0,x1,x2,x3⟩:=x
  rcases k3 with⟨k3,k4⟩|⟨k3,k4⟩
  ·have d1:(x1 !=p)=true:=by simpa using k3
   rw[k4]
   clear k3 k4
   go_enter Tryz.func18,Tryz.ntmps18
   go_wp2_with fail
   refine MD.out.mono ?_
   rintro e w2 ⟨rfl,hb⟩
   have B2:=Lib.hid hb
   clear hb
   go_wp2_with fail
   refine(FI.out w2 B2.out).mono ?_
   rintro e w3 ⟨rfl,hb⟩
   have B3:=Lib.hid (B2.out.trans (hb.mono B2.out.size))
   have Z3:=Lib.hid (heap_alloc_new w3 yZ)
   have B4:=Lib.hid (below_setRow (B3.out.alloc B3.out.size yZ) B3.out.size (rP (x0,x1,x2,x3)))
   have H4:=Lib.hid (H.out.step B4.out)
   have c1:((w3.alloc yZ).setRow w3.heap.size (rP (x0,x1,x2,x3))).cell? ⟨w3.heap.size,1,none⟩=some (.int .i64 x1):=abT (setRow_heap _ _ _ _ _ _ Z3.out)
   clear hb
   go_wp2_with(refine aH tV rfl (.tmp 9) (.tmp 16) rfl w3.heap.size (rP (x0,x1,x2,x3)) rfl rfl _ Z3.out rfl rfl (rQ _) ?_)
   go_ret
   exact⟨rfl,KeepP.below B4.out,Or.inl ⟨by decide,H4.out⟩⟩
  ·have d1:(x1 !=p)=false:=by simpa using k3
   rw[k4]
   clear k3 k4
   go_enter Tryz.func18,Tryz.ntmps18
   go_wp2_with fail
   refine MD.out.mono ?_
   rintro e w2 ⟨rfl,hb⟩
   have B2:=Lib.hid hb
   clear hb
   go_wp2_with fail
   refine(FI.out w2 B2.out).mono ?_
   rintro e w3 ⟨rfl,hb⟩
   have B3:=Lib.hid (B2.out.trans (hb.mono B2.out.size))
   have Z3:=Lib.hid (heap_alloc_new w3 yZ)
   have B4:=Lib.hid (below_setRow (B3.out.alloc B3.out.size yZ) B3.out.size (rP (x0,x1,x2,x3)))
   have c1:((w3.alloc yZ).setRow w3.heap.size (rP (x0,x1,x2,x3))).cell? ⟨w3.heap.size,1,none⟩=some (.int .i64 x1):=abT (setRow_heap _ _ _ _ _ _ Z3.out)
   clear hb
   go_wp2_with(refine aH tV rfl (.tmp 9) (.tmp 16) rfl w3.heap.size (rP (x0,x1,x2,x3)) rfl rfl _ Z3.out rfl rfl (rQ _) ?_)
   refine(EX.out _ B4.out).mono ?_
   rintro e w5 ⟨rfl,hk,hp⟩
   have P5:=Lib.hid hp
   have K5:=Lib.hid ((KeepP.below B4.out).trans hk)
   clear hp hk
   go_wp2_with fail
   go_ret
   exact⟨rfl,K5.out,P5.out⟩
end
end
section
section
variable {W0 w:World} {J:mE} {q c:Nat} {D:Int→Option Sp} {T:List Nd} {Qu:List Int} {Lb:List Nd} {G:Int→Option Pc} {rg:Int→Nat→Int}
end
end
end Go.Proofs.YtammlljefhakmaaGreatDoor
