/- The walk of ProcRegs. Condition: the listed tables read as laid. -/
import Derived.Test.YtammlljefhakmaaGreatDoorIN
import Derived.ChangeKeysEq
namespace Go.Proofs.YtammlljefhakmaaGreatDoor
open Go.RowKit Go.Maps
set_option maxRecDepth 100000
theorem uX(R:List Int)(hR:R.length=8)(w:World):(Op.equalIn 10000 46 (.agg (ah R)) (.agg (ah R))).run Tryz.prog w= .ok true w:=by
 obtain⟨i,hi,h1,h2,h3⟩:=info_parts Bo
 have hc:Tryz.prog.cellsOf 25=1:=by kernel_rfl
 match R,hR with
 |[t0,t1,t2,t3,t4,t5,t6,t7],_=>
  rw[run_equalIn_array w 9999 _ _ Tryz.underlying46 hi,hc]
  simp[Op.eqItems,List.range,List.range.loop,part,ah,go_sem]
section
variable {ops:Array Oper} {rest:List Oper} {op:Oper} {a:Act} {w:World} {Q:Exit→Act→World→Prop}
theorem I5{P:Program}(hw:Region.wanted op (yielded ops a.tmps)=true)
  (h:∀K:Act→World→Prop,(∀a w,wpList P ops Q rest a w→K a w)→op.wp P a w K Q):wpList P ops Q (op::rest) a w:=
 wpList_step fun K hK=>by rw[if_pos hw];exact h K hK
theorem Mi(R:List Int)(op:BinOp)(x y:Operand)(w:World):(eqGuard op 46 x y (.agg (ah R)) (.agg (ah R))).run Tryz.prog w= .ok () w:=run_eqGuard_agg w op _ x y _ _ (by kernel_rfl)
theorem Qh(hw:Region.wanted op (yielded ops a.tmps)=true)(x y:Operand)(b:TypeId)(ho:op.op= .binOp .eql 46 x y b)(R:List Int)(hR:R.length=8)(hx:a.eval x= .agg (ah R))(hy:a.eval y= .agg (ah R))
  (h:wpList Tryz.prog ops Q rest (a.put op.dst (.bool true)) w):wpList Tryz.prog ops Q (op::rest) a w:=
 I5 hw fun _ hK=>by
  unfold Oper.wp execOp
  simp only[ho,hx,hy,Sem.run_bind,Mi,run_eql_struct,uX R hR,Result.andThen_ok]
  exact hK _ _ h
theorem aax(hw:Region.wanted op (yielded ops a.tmps)=true)(x y:Operand)(b:TypeId)(ho:op.op= .binOp .neq 46 x y b)(R:List Int)(hR:R.length=8)(hx:a.eval x= .agg (ah R))(hy:a.eval y= .agg (ah R))
  (h:wpList Tryz.prog ops Q rest (a.put op.dst (.bool false)) w):wpList Tryz.prog ops Q (op::rest) a w:=
 I5 hw fun _ hK=>by
  unfold Oper.wp execOp
  simp only[ho,hx,hy,Sem.run_bind,Mi,run_neq_struct,uX R hR,Result.andThen_ok]
  exact hK _ _ h
theorem nC{t t':TypeId}{n:Nat}(T:uV t n)(hw:Region.wanted op (yielded ops a.tmps)=true)(x:Operand)(ho:op.op= .load t x)(b:Nat)(hx:a.eval x= .pointer (some ⟨b,0,none⟩))(cs:Array Value)(hg:w.heap[b]? =some (.cells cs t' (0,0)))(hn:cs.size=n)
  (h:wpList Tryz.prog ops Q rest (a.put op.dst (.agg cs)) w):wpList Tryz.prog ops Q (op::rest) a w:=by
 obtain⟨⟨d,h1,h2⟩,hs⟩:=T
 exact I5 hw fun _ hK=>wp_load_row t x ho b hx t' cs (0,0) d hg h1 (by cases d<;>simp_all) (by rw[hs,hn]) (hK _ _ h)
end
theorem afX{n:Int}(h:2≤n):iY n xQ 1=[(1,0,1,0),(2,1,1,0)]:=by
 have e:kR n xQ 1=0:=by rw[Dg (by decide),if_neg (by show((1:Nat):Int)≠n;omega)]
 unfold iY
 rw[if_pos e]
 rfl
theorem afY{n:Int}{q:Nat}(h:2≤n)(hq:4≤q):bX n xQ [(1,0,(q:Int),1)] 1 2 1=0:=by
 have e:kR n xQ 1=0:=by rw[Dg (by decide),if_neg (by show((1:Nat):Int)≠n;omega)]
 have e1:cK xQ 1 (vU 2)=0:=by decide
 unfold bX
 rw[e1,if_neg (by decide),if_neg (by decide),left_oneU,if_neg (by omega),e]
theorem adu{rg:Int→Nat→Int}{R:List Int}(hR:R.length=8)(h:∀k,k<8→rg 1 k=R.getD k 0):uJ rg 1=R:=by
 refine Bn (by simp[uJ,hR]) fun k hk=>?_
 have hk:k<8:=by simpa[uJ]using hk
 rw[Am _ _ hk,h k hk]
theorem XY(q sl:Int)(R:List Int)(k x:Int)(W:World)(h:fineB q sl=false∨fineB q sl=true∧(q<4∨4≤q∧sl<2))(hL:LaidN W):Calls Tryz.prog 8 #[.agg #[.int .i64 q, .int .i64 sl], .agg (ah R), .int .i64 k, .int .u32 x] W fun e w'=>e= .returned (.bool true)∧Below W.heap.size W w':=by
 have B1:=Lib.hid (ay W (pcO q sl) (rG R))
 have X1:=Lib.hid (heap_alloc2_old W (pcO q sl) (rG R))
 have AW:=Lib.hid (fun V (hb:Below W.heap.size W V)=>hL.awake18 V hb)
 have h':∃fb,(fineB q sl=fb)∧(fb=false∨fb=true∧(decide (q<4)=true∨decide (q<4)=false∧decide (sl<2)=true)):=by
  refine⟨_,rfl,h.imp id fun⟨h0,h1⟩=>⟨h0,?_⟩⟩
  rcases h1 with h1|⟨h1,h2⟩
  ·exact Or.inl (decide_eq_true h1)
  ·exact Or.inr ⟨decide_eq_false (by omega),decide_eq_true h2⟩
 clear h hL
 obtain⟨fb,hf,hc⟩:=h'
 have FN:=Lib.hid (fun V=>fine18_ok q sl V hf)
 clear hf
 rcases hc with rfl|⟨rfl,d1|⟨d1,d2⟩⟩
 all_goals
  go_enter Tryz.func8,Tryz.ntmps8
  go_wp2_with fail
  refine(FN.out _).mono ?_
  rintro e w2 ⟨rfl,hb⟩
  have B2:=Lib.hid (B1.out.trans (hb.mono B1.out.size))
  have X2:=Lib.hid (below_block hb X1.out)
  have q0:w2.cell? ⟨W.heap.size,0,none⟩=some (.int .i64 q):=by rw[cell_of_row w2 _ 0 _ _ _ X2.out];rfl
  have q1:w2.cell? ⟨W.heap.size,1,none⟩=some (.int .i64 sl):=by rw[cell_of_row w2 _ 1 _ _ _ X2.out];rfl
  have AW2:=Lib.hid (AW.out w2 B2.out)
  clear hb
  go_wp2_with fail
  refine AW2.out.mono ?_
  rintro e w3 ⟨rfl,hb⟩
  have B3:=Lib.hid (B2.out.trans (hb.mono B2.out.size))
  clear hb q0 q1
  go_wp2_with fail
  go_ret
  exact⟨rfl,B3.out⟩
abbrev Uf:Obj:= .cells #[.int .u32 0, .int .u32 0, .int .u32 0, .int .u32 0, .int .u32 0, .int .u32 0, .int .u32 0, .int .u32 0] 46 (0,0)
set_option maxHeartbeats 8000000 in
theorem aay(q:Nat)(sl:Int)(R:List Int)(at_ x:Int)(W:World)(h4:4≤q)(h60:q≤60)(hs:2≤sl)(Xj:sl≤8)(hR:R.length=8)(hw:∀k,0≤R.getD k 0∧R.getD k 0<4294967296)(hx:0≤x∧x<4294967296)(hL:LaidN W):Calls Tryz.prog 8 #[.agg #[.int .i64 (q:Int), .int .i64 sl], .agg (ah R), .int .i64 at_, .int .u32 x] W fun e w'=>e= .returned (.bool true)∧Below W.heap.size W w':=by
 have B1:=Lib.hid (ay W (pcO (q:Int) sl) (rG R))
 have X1:=Lib.hid (heap_alloc2_old W (pcO (q:Int) sl) (rG R))
 have Y1:=Lib.hid (heap_alloc2_new W (pcO (q:Int) sl) (rG R))
 have AW:=Lib.hid (fun V (hb:Below W.heap.size W V)=>hL.awake18 V hb)
 have FN:=Lib.hid (fun V=>fine18_ok (q:Int) sl V (fineB_iff.2 ⟨by omega,by omega⟩))
 have MD:=Lib.hid (fun V (hb:Below W.heap.size W V)=>made18_ok q sl V (by omega) h60 (by omega) (hL.lq.below hb) (hL.lw.below hb))
 have d1:decide ((q:Int)<4)=false:=decide_eq_false (by omega)
 have d2:decide (sl<2)=false:=decide_eq_false (by omega)
 have HQ:=Lib.hid (And.intro h4 (And.intro h60 (And.intro hs (And.intro hR (And.intro hw hx)))))
 clear hL h4 h60 hs Xj hR hw hx
 go_enter Tryz.func8,Tryz.ntmps8
 go_wp2_with fail
 refine(FN.out _).mono ?_
 rintro e w2 ⟨rfl,hb⟩
 have B2:=Lib.hid (B1.out.trans (hb.mono B1.out.size))
 have X2:=Lib.hid (below_block hb X1.out)
 have Y2:=Lib.hid (below_block hb Y1.out)
 have q0:w2.cell? ⟨W.heap.size,0,none⟩=some (.int .i64 (q:Int)):=by rw[cell_of_row w2 _ 0 _ _ _ X2.out];rfl
 have q1:w2.cell? ⟨W.heap.size,1,none⟩=some (.int .i64 sl):=by rw[cell_of_row w2 _ 1 _ _ _ X2.out];rfl
 clear hb
 go_wp2_with fail
 refine(MD.out w2 B2.out).mono ?_
 rintro e w3 ⟨J,s,rfl,_,hJ,hp⟩
 have P3:=Lib.hid hp
 have HJ:=Lib.hid hJ
 have Y3:=Lib.hid (below_block hp.below Y2.out)
 clear hJ hp q0 q1
 have f0:∀r:Int,cK xQ 1 (xM r)=if xM r=true then 0 else 2:=fun r=>by cases xM r<;>decide
 have F0:=Lib.hid f0
 clear f0
 go_wp2_with fail
 go_loopw [12] (fun sv wr=>∃(j:Nat) (rg:Int→Nat→Int),sv= .int .i64 (j:Int)∧j≤8∧bY w2 wr J q (q-1) D18 xQ [1] [(1,0,(q:Int),1)] (G18 s) rg∧(∀k,k<j→rg 1 k=R.getD k 0)∧KeepP w3 wr) (fun s _=>(8-(intOf s).toNat))
 case atStart=>exact⟨0,_,rfl,Nat.zero_le _,P3.out,fun k hk=>absurd hk (by omega),KeepP.refl _⟩
 case round=>
  obtain⟨j,rg,rfl,hj,h1,h2,hK⟩:=hrel
  have P4:=Lib.hid h1
  have G4:=Lib.hid h2
  have K4:=Lib.hid hK
  have Y4:=Lib.hid (hK.box Y3.out (by decide))
  clear h1 h2 hK
  by_cases hlt:j<8
  ·have hc:=jC Y4.out HQ.out.2.2.2.1 j hlt
   have hw:=HQ.out.2.2.2.2.1 j
   have PT:=Lib.hid (P4.out.put (p:=1) (r:=(j:Int)) (a:=R.getD j 0) (by decide) hw)
   rw[F0.out,if_pos (xO.2 (by omega))]at PT
   have WJ:=Lib.hid hw
   have hl8:(j:Int)<8:=by omega
   obtain⟨y,hy⟩:∃y,y=R.getD j 0:=⟨_,rfl⟩
   have HY:=Lib.hid hy
   rw[←hy]at hc PT
   clear hw hy
   go_wp2_with fail
   refine PT.out.mono ?_
   rintro e w5 ⟨rfl,hk,hp⟩
   have P5:Hid (bY w2 w5 J q (q-1) D18 xQ [1] [(1,0,(q:Int),1)] (G18 s) (ng rg 1 ((uJ rg 1).set j y))):=Lib.hid (by
    obtain⟨h0,_⟩|⟨_,hp⟩:=hp
    ·exact absurd rfl h0
    ·simpa using hp)
   have K5:=Lib.hid (K4.out.trans hk)
   clear hk hp hc
   go_wp2_with fail
   go_roundw
   case rel=>
    refine⟨j+1,_,by go_num,by omega,P5.out,fun k hk=>?_,K5.out⟩
    show(if(1:Int)=1 then((uJ rg 1).set j y).getD k 0 else rg 1 k)= _
    rw[if_pos rfl,Gr]
    by_cases e:j=k
    ·subst e
     rw[if_pos ⟨rfl,by simpa[uJ]using hlt⟩,HY.out]
    ·rw[if_neg (fun h=>e h.1),Am _ _ (by omega)]
     exact G4.out k (by omega)
   case measure=>simp[intOf];omega
  ·obtain rfl:j=8:=by omega
   have RG:Hid (uJ rg 1=R):=Lib.hid (adu HQ.out.2.2.2.1 G4.out)
   have FK:=Lib.hid (P4.out.fork (p:=1) (quota:=2) (by decide))
   rw[Gy (by decide),HJ.out,afY HQ.out.2.2.1 HQ.out.1,show rH 0 xQ=2 by rw[uK rfl,Mf]]at FK
   go_wp2_with fail
   refine FK.out.mono ?_
   rintro e w5 ⟨rfl,hk,hp⟩
   have P5:Hid (∃c D Qu Lb G,bY w2 w5 J q c D [(1,0,1,0),(2,1,1,0)] Qu Lb G (ng rg 2 ((R.set 0 0).set 1 0))):=Lib.hid (by
    obtain⟨h0,_⟩|⟨_,c',D',G',dX,mq,hp,_,_,_,hr,_⟩:=hp
    ·exact absurd rfl h0
    ·rw[afX HQ.out.2.2.1]at hp
     rw[Mf]at hr
     subst hr
     rw[show fkJ rg 1 2=ng rg 2 ((R.set 0 0).set 1 0) by unfold fkJ;rw[RG.out]]at hp
     exact⟨c',D',_,dX,G',hp⟩)
   have Y5:=Lib.hid (hk.box Y4.out (by decide))
   clear hk hp FK P4 P3 Y3
   obtain⟨c5,D5,Q5,L5,G5,hp⟩:=P5.out
   have P5:=Lib.hid hp
   clear hp
   obtain⟨R2,hR2⟩:∃R2,R2=(R.set 0 0).set 1 0:=⟨_,rfl⟩
   have HR2:=Lib.hid hR2
   have L2:Hid (R2.length=8):=Lib.hid (by rw[hR2];simp[HQ.out.2.2.2.1])
   rw[←hR2]at P5
   clear hR2
   have e2:cK [(1,0,1,0),(2,1,1,0)] 2 true=0:=by decide
   have e1:cK [(1,0,1,0),(2,1,1,0)] 1 true=0:=by decide
   have ER:Hid ((∀rg,uW [(1,0,1,0),(2,1,1,0)] rg 2=uJ rg 2)∧∀rg,uW [(1,0,1,0),(2,1,1,0)] rg 1=uJ rg 1):=Lib.hid ⟨fun rg=>if_pos e2,fun rg=>if_pos e1⟩
   have RS:=Lib.hid (P5.out.regs (p:=2) (by decide))
   rw[ER.out.1,Ao _ _ L2.out,e2]at RS
   go_wp2_with fail
   refine RS.out.mono ?_
   rintro e w6 ⟨rfl,hb⟩
   have P6:=Lib.hid (P5.out.step hb)
   have Y6:=Lib.hid (below_block hb Y5.out)
   have Z6:=Lib.hid (heap_alloc_new w6 Uf)
   clear hb
   go_upto_region 13 with(refine aL oF rfl (.tmp 15) (.tmp 65) rfl w6.heap.size (ah R2) rfl rfl _ Z6.out (dN R2 L2.out) rfl (eO R2) ?_)
   obtain⟨w7,hw7⟩:∃w7,w7=(w6.alloc Uf).setRow w6.heap.size (ah R2):=⟨_,rfl⟩
   have B7:Hid (Below w6.heap.size w6 w7):=Lib.hid (by rw[hw7];exact below_setRow ((Below.refl _ _).alloc (Nat.le_refl _) Uf) (Nat.le_refl _) (ah R2))
   have S7:Hid (w7.heap[w6.heap.size]? =some (rG R2)):=Lib.hid (by rw[hw7];exact setRow_heap _ _ _ _ _ _ Z6.out)
   have Y7:=Lib.hid (below_block B7.out Y6.out)
   have Z7:=Lib.hid (heap_alloc_new w7 Uf)
   rw[←hw7]
   clear hw7
   go_upto_region 14 with(first|(refine bP oF rfl (.tmp 5) rfl (W.heap.size+1) rfl (ah R) Y7.out (dN R HQ.out.2.2.2.1) ?_)|(refine aL oF rfl (.tmp 17) (.tmp 67) rfl w7.heap.size (ah R) rfl rfl _ Z7.out (dN R HQ.out.2.2.2.1) rfl (eO R) ?_))
   obtain⟨w8,hw8⟩:∃w8,w8=(w7.alloc Uf).setRow w7.heap.size (ah R):=⟨_,rfl⟩
   have B8:Hid (Below w7.heap.size w7 w8):=Lib.hid (by rw[hw8];exact below_setRow ((Below.refl _ _).alloc (Nat.le_refl _) Uf) (Nat.le_refl _) (ah R))
   have T8:Hid (w8.heap[w7.heap.size]? =some (rG R)):=Lib.hid (by rw[hw8];exact setRow_heap _ _ _ _ _ _ Z7.out)
   rw[←hw8]
   clear hw8
   have f0:=frozen_of_row w8 w7.heap.size 0 _ _ T8.out
   have f1:=frozen_of_row w8 w7.heap.size 1 _ _ T8.out
   have g0:=jC T8.out HQ.out.2.2.2.1 0 (by decide)
   have g1:=jC T8.out HQ.out.2.2.2.1 1 (by decide)
   go_upto_region 16 with fail
   obtain⟨w9,hw9⟩:∃w9,w9=(w8.setCell ⟨w7.heap.size,0,none⟩ (.int .u32 0)).setCell ⟨w7.heap.size,1,none⟩ (.int .u32 0):=⟨_,rfl⟩
   have B9:Hid (Below w6.heap.size w6 w9):=Lib.hid (by rw[hw9];exact((B7.out.trans (B8.out.mono B7.out.size)).setCell (p:=⟨w7.heap.size,0,none⟩) B7.out.size _).setCell (p:=⟨w7.heap.size,1,none⟩) B7.out.size _)
   have T9:Hid (w9.heap[w7.heap.size]? =some (rG R2)):=Lib.hid (by rw[hw9,HR2.out];exact qY (qY T8.out 0 0) 1 0)
   have S9:Hid (w9.heap[w6.heap.size]? =some (rG R2)):=Lib.hid (by
    have hne:w6.heap.size≠w7.heap.size:=Nat.ne_of_lt (lt_of_block S7.out)
    rw[hw9]
    simp only[World.setCell,Array.getElem?_modify]
    rw[if_neg (fun e=>hne e.symm),if_neg (fun e=>hne e.symm)]
    exact below_block B8.out S7.out)
   have Y9:=Lib.hid (below_block B9.out Y6.out)
   have P9:=Lib.hid (P6.out.step B9.out)
   have F2:Hid (∀r:Int,cK [(1,0,1,0),(2,1,1,0)] 2 (xM r)=if xM r=true then 0 else 2):=Lib.hid fun r=>by cases xM r<;>decide
   have PT:=Lib.hid (P9.out.put (p:=2) (r:=at_) (a:=x) (by decide) HQ.out.2.2.2.2.2)
   rw[F2.out]at PT
   have BW6:=Lib.hid (B2.out.trans (P6.out.below.mono B2.out.size))
   have BW9:=Lib.hid (BW6.out.trans (B9.out.mono BW6.out.size))
   have ak4:=L2.out
   rw[←hw9]
   clear hw9 f0 f1 g0 g1 RS
   go_upto_region 18 with(first|(refine nC oF (by rfl) (.tmp 15) rfl w6.heap.size rfl (ah R2) S9.out (dN R2 L2.out) ?_)|(refine nC oF (by rfl) (.tmp 17) rfl w7.heap.size rfl (ah R2) T9.out (dN R2 L2.out) ?_)|(refine aax (by rfl) (.tmp 77) (.tmp 78) _ rfl R2 L2.out rfl rfl ?_))
   by_cases hat:0≤at_∧at_<8
   ·rw[if_pos (xO.2 hat)]at PT
    obtain⟨k,rfl⟩:∃k:Nat,at_=(k:Int):=⟨at_.toNat,by omega⟩
    have hk8:k<8:=by omega
    have k1:decide ((k:Int)<0)=false:=decide_eq_false (by omega)
    have k2:decide ((7:Int)<(k:Int))=false:=decide_eq_false (by omega)
    have k3:(k:Int)<8:=by omega
    have K8:=Lib.hid hk8
    clear hat hk8
    go_wp2_with fail
    refine PT.out.mono ?_
    rintro e w10 ⟨rfl,hk,hp⟩
    have XV:Hid (bY w2 w10 J q c5 D5 [(1,0,1,0),(2,1,1,0)] Q5 L5 G5 (ng (ng rg 2 R2) 2 (R2.set k x))):=Lib.hid (by
     obtain⟨h0,_⟩|⟨_,hp⟩:=hp
     ·exact absurd rfl h0
     ·rw[Ao _ _ L2.out]at hp
      simpa using hp)
    have T10:=Lib.hid (hk.box T9.out (by decide))
    have Y10:=Lib.hid (hk.box Y9.out (by decide))
    have B10:=Lib.hid (B2.out.trans (XV.out.below.mono B2.out.size))
    have NW:Hid (w2.heap.size≤w7.heap.size):=Lib.hid (Nat.le_trans P6.out.below.size B7.out.size)
    have c0:=jC T10.out L2.out k K8.out
    have f0:=frozen_of_row w10 w7.heap.size k _ _ T10.out
    have T11:=Lib.hid (qY T10.out k x)
    have O11:Hid (Only w10 (w10.setCell ⟨w7.heap.size,k,none⟩ (.int .u32 x)) (fun y=>y=w7.heap.size)):=Lib.hid (Only.grown (grownBy_setCell _ _ _ _) rfl)
    have Gx:=Lib.hid (XV.out.own T10.out (by decide) NW.out O11.out)
    have N15:Hid (W.heap.size+1≠w7.heap.size):=Lib.hid (by have h1:=lt_of_block Y6.out;have h2:=B7.out.size;omega)
    have Y11:=Lib.hid (O11.out.kept Y10.out N15.out)
    have RA:=Lib.hid (Gx.out.regs (p:=2) (by decide))
    obtain⟨R3,hR3⟩:∃R3,R3=R2.set k x:=⟨_,rfl⟩
    have L3:Hid (R3.length=8):=Lib.hid (by rw[hR3];simp[L2.out])
    rw[←hR3]at T11 RA Gx
    rw[ER.out.1,Ao _ _ L3.out,e2]at RA
    have RB:=Lib.hid (fun V (hb:Below (w10.setCell ⟨w7.heap.size,k,none⟩ (.int .u32 x)).heap.size (w10.setCell ⟨w7.heap.size,k,none⟩ (.int .u32 x)) V)=>(Gx.out.step hb).regs (p:=1) (by decide))
    have e9:uJ (ng (ng rg 2 R2) 2 R3) 1=R:=by rw[Gm _ _ (by decide),Gm _ _ (by decide),RG.out]
    rw[ER.out.2,e9,e1]at RB
    clear hk hp hR3 e9
    go_wp2_with fail
    refine RA.out.mono ?_
    rintro e w12 ⟨rfl,hb⟩
    have B12:=Lib.hid hb
    have T12:=Lib.hid (below_block hb T11.out)
    have Y12:=Lib.hid (below_block hb Y11.out)
    have Z12:=Lib.hid (heap_alloc_new w12 Uf)
    clear hb c0 f0
    go_upto_region 23 with(refine aL oF rfl (.tmp 19) (.tmp 104) rfl w12.heap.size (ah R3) rfl rfl _ Z12.out (dN R3 L3.out) rfl (eO R3) ?_)
    obtain⟨w13,aaA⟩:∃w13,w13=(w12.alloc Uf).setRow w12.heap.size (ah R3):=⟨_,rfl⟩
    have h13:Below w12.heap.size w12 w13:=by rw[aaA];exact below_setRow ((Below.refl _ _).alloc (Nat.le_refl _) Uf) (Nat.le_refl _) (ah R3)
    have U13:Hid (w13.heap[w12.heap.size]? =some (rG R3)):=Lib.hid (by rw[aaA];exact setRow_heap _ _ _ _ _ _ Z12.out)
    have T13:=Lib.hid (below_block h13 T12.out)
    have Y13:=Lib.hid (below_block h13 Y12.out)
    have Ue:=Lib.hid (B12.out.trans (h13.mono B12.out.size))
    rw[←aaA]
    clear aaA h13
    go_wp2_with fail
    refine(RB.out w13 Ue.out).mono ?_
    rintro e w14 ⟨rfl,hb⟩
    have T14:=Lib.hid (below_block hb T13.out)
    have Y14:=Lib.hid (below_block hb Y13.out)
    have U14:=Lib.hid (below_block hb U13.out)
    have Z14:=Lib.hid (heap_alloc_new w14 Uf)
    have B14:=Lib.hid (Ue.out.trans (hb.mono Ue.out.size))
    clear hb
    go_upto_region 24 with(refine aL oF rfl (.tmp 21) (.tmp 109) rfl w14.heap.size (ah R) rfl rfl _ Z14.out (dN R HQ.out.2.2.2.1) rfl (eO R) ?_)
    obtain⟨w15,aaC⟩:∃w15,w15=(w14.alloc Uf).setRow w14.heap.size (ah R):=⟨_,rfl⟩
    have h15:Below w14.heap.size w14 w15:=by rw[aaC];exact below_setRow ((Below.refl _ _).alloc (Nat.le_refl _) Uf) (Nat.le_refl _) (ah R)
    have V15:Hid (w15.heap[w14.heap.size]? =some (rG R)):=Lib.hid (by rw[aaC];exact setRow_heap _ _ _ _ _ _ Z14.out)
    have T15:=Lib.hid (below_block h15 T14.out)
    have Y15:=Lib.hid (below_block h15 Y14.out)
    have U15:=Lib.hid (below_block h15 U14.out)
    have P15:=Lib.hid (Gx.out.step (B14.out.trans (h15.mono B14.out.size)))
    have adw:=Lib.hid (B2.out.trans (P15.out.below.mono B2.out.size))
    rw[←aaC]
    clear aaC h15
    go_wp2_with(first|(refine nC oF (by rfl) (.tmp 19) rfl w12.heap.size rfl (ah R3) U15.out (dN R3 L3.out) ?_)|(refine nC oF (by rfl) (.tmp 17) rfl w7.heap.size rfl (ah R3) T15.out (dN R3 L3.out) ?_)|(refine Qh (by rfl) (.tmp 122) (.tmp 123) _ rfl R3 L3.out rfl rfl ?_)|(refine nC oF (by rfl) (.tmp 21) rfl w14.heap.size rfl (ah R) V15.out (dN R HQ.out.2.2.2.1) ?_)|(refine nC oF (by rfl) (.tmp 5) rfl (W.heap.size+1) rfl (ah R) Y15.out (dN R HQ.out.2.2.2.1) ?_)|(refine Qh (by rfl) (.tmp 127) (.tmp 128) _ rfl R HQ.out.2.2.2.1 rfl rfl ?_))
    refine(AW.out w15 adw.out).mono ?_
    rintro e w16 ⟨rfl,hb⟩
    have B16:=Lib.hid (adw.out.trans (hb.mono adw.out.size))
    clear hb
    go_wp2_with fail
    go_ret
    exact⟨rfl,B16.out⟩
   ·have hr:xM at_=false:=by
     cases hx:xM at_ with
     |false=>rfl
     |true=>exact absurd (xO.1 hx) hat
    rw[hr,if_neg (by decide)]at PT
    have dk:decide (at_<0)=true∨decide (at_<0)=false∧decide (7<at_)=true:=by
     by_cases hx:at_<0
     ·exact Or.inl (decide_eq_true hx)
     ·exact Or.inr ⟨decide_eq_false hx,decide_eq_true (by omega)⟩
    clear hr hat
    rcases dk with k1|⟨k1,k2⟩
    all_goals
     go_wp2_with fail
     refine PT.out.mono ?_
     rintro e w10 ⟨rfl,hk,hp⟩
     have B10:Hid (Below W.heap.size W w10):=Lib.hid (by
      obtain⟨_,hp⟩|⟨h0,_⟩:=hp
      ·exact B2.out.trans (hp.below.mono B2.out.size)
      ·exact absurd h0 (by decide))
     clear hk hp
     go_wp2_with fail
     refine(AW.out w10 B10.out).mono ?_
     rintro e w11 ⟨rfl,hb⟩
     have B11:=Lib.hid (B10.out.trans (hb.mono B10.out.size))
     clear hb
     go_wp2_with fail
     go_ret
     exact⟨rfl,B11.out⟩
theorem En(q sl:Int)(R:List Int)(k x:Int)(W:World)(_:I64 q∧I64 sl)(hR:R.length=8∧∀k,0≤R.getD k 0∧R.getD k 0<4294967296)(_:I64 k)(hx:0≤x∧x≤4294967295)(hL:LaidN W):Calls Tryz.prog 8 #[.agg #[.int .i64 q, .int .i64 sl], .agg (ah R), .int .i64 k, .int .u32 x] W fun e w'=>e= .returned (.bool true)∧Below W.heap.size W w':=by
 by_cases h:fineB q sl=true∧4≤q∧2≤sl
 ·obtain⟨h1,h2,h3⟩:=h
  have h5:=fineB_iff.1 h1
  obtain⟨n,rfl⟩:∃n:Nat,q=(n:Int):=⟨q.toNat,by omega⟩
  exact aay n sl R k x W (by omega) (by omega) h3 h5.2.2 hR.1 hR.2 (by omega) hL
 ·refine XY q sl R k x W ?_ hL
  cases hf:fineB q sl with
  |false=>exact Or.inl rfl
  | true=>
   refine Or.inr ⟨rfl,?_⟩
   by_cases h4:4≤q
   ·refine Or.inr ⟨h4,?_⟩
    have h9:¬ 2≤sl:=fun h2=>h ⟨hf,h4,h2⟩
    omega
   ·exact Or.inl (by omega)
end Go.Proofs.YtammlljefhakmaaGreatDoor
