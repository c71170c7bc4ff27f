/- The walk of ProcSame. Condition: the listed tables read as laid. Written by gen/gen_j35.py. -/
import Derived.Test.YtammlljefhakmaaGreatDoorIO
import Derived.BigQuiet
namespace Go.Proofs.YtammlljefhakmaaGreatDoor
open Go.RowKit Go.Maps
set_option maxRecDepth 100000
abbrev KO(d p n x y:Int)(b:Bool)(va a:Int):Obj:= .cells (KU d p n x y b va a) 27 (0,0)
theorem Ww(q sl:Int)(a:Option Addr)(n cp:Nat)(o:Op18)(W:World)(h:fineB q sl=false∨fineB q sl=true∧(40:Int)<(n:Int))(hL:LaidN W):Calls Tryz.prog 6 #[.agg #[.int .i64 q, .int .i64 sl], .slice a n cp, .agg o.v] W fun e w'=>e= .returned (.bool true)∧Below W.heap.size W w':=by
 obtain⟨od,op,on,ox,oy,ob,Zh,oa⟩:=o
 have B1:=Lib.hid (aA W (pcO q sl) (KO od op on ox oy ob Zh oa))
 have X1:=Lib.hid (heap_alloc2_old W (pcO q sl) (KO od op on ox oy ob Zh oa))
 have AW:=Lib.hid (fun V (hb:Below W.heap.size W V)=>hL.awake18 V hb)
 have h':∃fb,(fineB q sl=fb)∧(fb=false∨fb=true∧decide ((40:Int)<(n:Int))=true):=⟨_,rfl,h.imp id fun⟨h0,h1⟩=>⟨h0,decide_eq_true h1⟩⟩
 clear h hL
 obtain⟨fb,hf,hc⟩:=h'
 have FN:=Lib.hid (fun V=>fine18_ok q sl V hf)
 clear hf
 rcases hc with rfl|⟨rfl,d1⟩
 all_goals
  go_enter Tryz.func6,Tryz.ntmps6
  go_wp2_with fail
  refine(FN.out _).mono ?_
  rintro e w2 ⟨rfl,hb⟩
  have B2:=Lib.hid (B1.out.trans (hb.mono B1.out.size))
  have AW2:=Lib.hid (AW.out w2 B2.out)
  clear hb
  go_wp2_with fail
  refine AW2.out.mono ?_
  rintro e w3 ⟨rfl,hb⟩
  have B3:=Lib.hid (B2.out.trans (hb.mono B2.out.size))
  clear hb
  go_wp2_with fail
  go_ret
  exact⟨rfl,B3.out⟩
set_option maxHeartbeats 8000000 in
theorem Zi(q:Nat)(sl:Int)(v:Value)(S:List Op18)(o:Op18)(W:World)(h1:1≤q)(h60:q≤60)(hs:1≤sl∧sl≤8)(hlen:S.length≤40)(hO:ArgOps18 W v S)(ho:o.M9)(hL:LaidN W):Calls Tryz.prog 6 #[.agg #[.int .i64 (q:Int), .int .i64 sl],v, .agg o.v] W fun e w'=>e= .returned (.bool true)∧Below W.heap.size W w':=by
 obtain⟨od,op,on,ox,oy,ob,Zh,oa⟩:=o
 have OW:=Lib.hid ho
 have B1:=Lib.hid (aA W (pcO (q:Int) sl) (KO od op on ox oy ob Zh oa))
 have Y1:=Lib.hid (heap_alloc2_new W (pcO (q:Int) sl) (KO od op on ox oy ob Zh oa))
 have X1:=Lib.hid (heap_alloc2_old W (pcO (q:Int) sl) (KO od op on ox oy ob Zh oa))
 have AW:=Lib.hid (fun V (hb:Below W.heap.size W V)=>hL.awake18 V hb)
 have FN:=Lib.hid (fun V=>fine18_ok (q:Int) sl V (fineB_iff.2 ⟨by omega,hs⟩))
 have MD:=Lib.hid (fun V (hb:Below W.heap.size W V)=>made18_ok q sl V h1 h60 hs (hL.lq.below hb) (hL.lw.below hb))
 obtain⟨a,cp,rfl,hwd,hO⟩:=hO
 have WD:=Lib.hid hwd
 have HO:=Lib.hid hO
 obtain⟨n,hn⟩:∃n,n=S.length:=⟨_,rfl⟩
 have HN:=Lib.hid hn
 have n40:n≤40:=by omega
 have d3:decide ((40:Int)<(n:Int))=false:=decide_eq_false (by omega)
 rw[←hn]
 clear ho hwd hO hlen hn hL h1 h60 hs
 go_enter Tryz.func6,Tryz.ntmps6
 go_wp2_with fail
 refine(FN.out _).mono ?_
 rintro e w2 ⟨rfl,hb⟩
 have B2:=Lib.hid (B1.out.trans (hb.mono B1.out.size))
 have X2:=Lib.hid (below_block hb X1.out)
 have Y2:=Lib.hid (below_block hb Y1.out)
 have q0:w2.cell? ⟨W.heap.size,0,none⟩=some (.int .i64 (q:Int)):=by rw[cell_of_row w2 _ 0 _ _ _ X2.out];rfl
 have q1:w2.cell? ⟨W.heap.size,1,none⟩=some (.int .i64 sl):=by rw[cell_of_row w2 _ 1 _ _ _ X2.out];rfl
 clear hb
 go_wp2_with fail
 refine(MD.out w2 B2.out).mono ?_
 rintro e w3 ⟨J,s,rfl,_,_,hp⟩
 have P3:=Lib.hid hp.any
 have K3:=Lib.hid (KeepP.below hp.below)
 clear hp q0 q1
 go_wp2_with fail
 go_loopw [10] (fun s wr=>∃j:Nat,s= .int .i64 (j:Int)∧j≤n∧AnyP w2 wr J q∧KeepP w2 wr) (fun s _=>(n-(intOf s).toNat))
 case atStart=>exact⟨0,rfl,Nat.zero_le _,P3.out,K3.out⟩
 case round=>
  obtain⟨j,rfl,hj,hp,hkp⟩:=hrel
  have K4:=Lib.hid hkp
  clear hkp
  have P4:=Lib.hid hp
  clear hp
  by_cases hlt:j<n
  ·obtain⟨b,o,rfl,hb1,hb2⟩:=HO.out.resolve_left (by intro e;have:=HN.out;rw[e]at this;simp at this;omega)
   have hmem:S.getD j default∈S:=by rw[List.getD_eq_getElem?_getD,List.getElem?_eq_getElem (by have:=HN.out;omega)];simp
   have DO:=Lib.hid (P4.out.does (S.getD j default) (WD.out _ hmem))
   obtain⟨c0,c1,c2,c3,c4,c5,c6,c7⟩:=(hb2 j (by have:=HN.out;omega)).below (B2.out.trans (P4.out.below.mono B2.out.size)) hb1
   generalize S.getD j default=x at DO c0 c1 c2 c3 c4 c5 c6 c7
   obtain⟨x0,x1,x2,x3,x4,x5,x6,x7⟩:=x
   simp only at c0 c1 c2 c3 c4 c5 c6 c7
   clear hb1 hb2 hmem
   go_wp2_with fail
   refine DO.out.mono ?_
   rintro e w5 ⟨rfl,hk5,hp⟩
   have P5:=Lib.hid hp
   have K5:=Lib.hid (K4.out.trans hk5)
   clear hk5 hp c0 c1 c2 c3 c4 c5 c6 c7
   go_wp2_with fail
   go_roundw
   case rel=>exact⟨j+1,by go_num,by omega,P5.out,K5.out⟩
   case measure=>simp[intOf];omega
  ·obtain rfl:j=n:=by omega
   obtain⟨c,D,T,Qu,Lb,G,rg,hp⟩:=P4.out
   have S5:Hid (kN w2 wr J q c Lb T.length):=Lib.hid ⟨D,T,Qu,G,rg,hp,rfl⟩
   have OB:=Lib.hid (fun V (hk:KeepP wr V)=>(K4.out.trans hk).box Y2.out (by decide))
   have OC:Hid (∀V,KeepP wr V→V.cell? ⟨W.heap.size+1,1,none⟩=some (.int .i64 op)∧V.cell? ⟨W.heap.size+1,2,none⟩=some (.int .i64 on)∧V.cell? ⟨W.heap.size+1,7,none⟩=some (.int .u32 oa)):=Lib.hid fun V hk=>by
    have:=fun i=>cell_of_row V (W.heap.size+1) i _ _ _ (OB.out V hk)
    exact⟨this 1,this 2,this 7⟩
   have OI:Hid (I64 op∧I64 on∧0≤oa∧oa<4294967296):=Lib.hid ⟨OW.out.2.1,OW.out.2.2.1,OW.out.2.2.2.2.2.2⟩
   obtain⟨tl,htl⟩:∃tl,tl=T.length:=⟨_,rfl⟩
   rw[←htl]at S5
   obtain⟨lf,hlf⟩:∃lf,lf=aM Lb op:=⟨_,rfl⟩
   have HF:=Lib.hid hlf
   have LB:Hid (-1000000≤lf∧lf≤65536):=Lib.hid (by rw[hlf];exact S5.out.bound op)
   obtain⟨c1,c2,c7⟩:=OC.out wr (KeepP.refl _)
   clear hp P4 P3 hlt hj HO WD htl hlf OB MD FN
   go_wp2_with fail
   refine(S5.out.left op HF.out.symm).mono ?_
   rintro e w6 ⟨rfl,hb⟩
   have S6:=Lib.hid (S5.out.step hb)
   have K6:Hid (KeepP wr w6):=Lib.hid (KeepP.below hb)
   clear hb c1 c2 c7
   go_wp2_with fail
   refine S6.out.free.mono ?_
   rintro e w7 ⟨rfl,hb⟩
   have S7:=Lib.hid (S6.out.step hb)
   have K7:=Lib.hid (K6.out.trans (KeepP.below hb))
   clear hb
   go_wp2_with fail
   refine S7.out.all.mono ?_
   rintro e w8 ⟨⟨a8,cp8,rfl⟩,hb⟩
   have S8:=Lib.hid (S7.out.step hb)
   have K8:=Lib.hid (K7.out.trans (KeepP.below hb))
   have FK:=Lib.hid (S8.out.fork (p:=op) (k:=on) OI.out.1)
   obtain⟨c1,c2,c7⟩:=OC.out w8 K8.out
   clear hb
   go_wp2_with fail
   refine FK.out.mono ?_
   rintro e w9 ⟨hk,xc,y,rfl,hxy⟩
   have K9:=Lib.hid (K8.out.trans hk)
   have XY:=Lib.hid hxy
   clear hk hxy c1 c2 c7
   have tl8:tl≤8:=S8.out.few
   have END:Hid (∀V,Below w2.heap.size w2 V→Calls Tryz.prog 27 #[] V fun e w'=>e= .returned (.bool true)∧Below W.heap.size W w'):=Lib.hid fun V hb=>(AW.out V (B2.out.trans (hb.mono B2.out.size))).mono fun e w' ⟨h1,h2⟩=>⟨h1,(B2.out.trans (hb.mono B2.out.size)).trans (h2.mono (B2.out.trans (hb.mono B2.out.size)).size)⟩
   obtain⟨c1,c2,c7⟩:=OC.out w9 K9.out
   by_cases he:(oa.tmod 2==0)=true
   ·rcases XY.out with⟨hy,hs⟩|⟨hy,hs⟩
    ·as_aux_lemma=>
      have S9:=Lib.hid hs
      have y1:(y==0)=false:=by simpa using hy
      clear hs hy c1 c2
      go_upto_region 16 with fail
      clear c7
      have SP:=Lib.hid (S9.out.spawn (p:=op) (k:=on) OI.out.1 OI.out.2.2)
      obtain⟨c1,c2,c7⟩:=OC.out w9 K9.out
      go_wp2_with fail
      refine SP.out.mono ?_
      rintro e KQ ⟨hk,xc,y2,rfl,hxy⟩
      have K20:=Lib.hid (K9.out.trans hk)
      clear hk c1 c2 c7 SP
      rcases hxy with⟨hy2,hs2⟩|⟨rfl,hs2⟩
      ·have Wx:=Lib.hid hs2
       have n2:(y2 !=0)=true:=by simpa using hy2
       clear hs2
       go_wp2_with fail
       refine(END.out KQ Wx.out.below).mono ?_
       rintro e wz ⟨rfl,hz⟩
       have BZ:=Lib.hid hz
       clear hz
       go_wp2_with fail
       go_ret
       exact⟨rfl,BZ.out⟩
      ·have Wx:=Lib.hid hs2
       clear hs2
       go_upto_region 19 with fail
       have QN:=Lib.hid Wx.out.quota
       obtain⟨lk,hlk⟩:∃lk,lk=lf-on:=⟨_,rfl⟩
       have ew:IntKind.i64.wrap (lf-on)=lk:=by rw[hlk,IntKind.wrap_i64];have:=LB.out;have:=QN.out;omega
       have CL:Hid (∀V,KeepP KQ V→V.cell? ⟨W.heap.size+1,1,none⟩=some (.int .i64 op)∧V.cell? ⟨W.heap.size+1,2,none⟩=some (.int .i64 on)):=Lib.hid fun V hk=>⟨(OC.out V (K20.out.trans hk)).1,(OC.out V (K20.out.trans hk)).2.1⟩
       have LL:=Lib.hid (fun V (hb:Below KQ.heap.size KQ V)=>(Wx.out.step hb).left (d:=lk) (by rw[hlk,HF.out]))
       have KL:=Lib.hid (fun V (hb:Below KQ.heap.size KQ V)=>(Wx.out.step hb).kill (a:=1) (by decide))
       have e1:(lk !=lk)=false:=by simp
       have e2:(lf !=lf)=false:=by simp
       have e3:((c:Int) !=(c:Int))=false:=by simp
       clear hlk
       go_wp2_with fail
       refine wp_region_noPanic ?_
       refine wp_region_held_drew (S:=(fun V=>V.cell? ⟨W.heap.size+1,1,none⟩=some (.int .i64 op)∧V.cell? ⟨W.heap.size+1,2,none⟩=some (.int .i64 on))) (by kernel_rfl) (by exact CL.out _ (KeepP.below (Below.refl _ _).drew)) (fun hHeld=>?_)
       refine wpAnyH_take (i:=0) (oi:=_) (v:= .pointer (some ⟨J.ps,0,none⟩)) rfl (by kernel_rfl) (by kernel_rfl) (by kernel_rfl) (fun _ _ _ h=>h) (Or.inl ⟨by rfl,?_⟩) (by assumption) ?_
       ·intro w hSw
        try dsimp only at hSw
        go_split_ands
        go_simp
       try simp only[Act.put,List.getElem_toArray,List.getElem_cons_zero,List.setIfInBounds_toArray,List.set_cons_zero,List.set_cons_succ]
       refine wpAnyH_take (i:=1) (oi:=_) (v:= .pointer (some ⟨W.heap.size+1,1,none⟩)) rfl (by kernel_rfl) (by kernel_rfl) (by kernel_rfl) (fun _ _ _ h=>h) (Or.inl ⟨by rfl,?_⟩) (by assumption) ?_
       ·intro w hSw
        try dsimp only at hSw
        go_split_ands
        go_simp
       try simp only[Act.put,List.getElem_toArray,List.getElem_cons_zero,List.getElem_cons_succ,List.setIfInBounds_toArray,List.set_cons_zero,List.set_cons_succ]
       refine wpAnyH_take (i:=2) (oi:=_) (v:= .int .i64 op) rfl (by kernel_rfl) (by kernel_rfl) (by kernel_rfl) (fun _ _ _ h=>h) (Or.inl ⟨by rfl,?_⟩) (by assumption) ?_
       ·intro w hSw
        try dsimp only at hSw
        go_split_ands
        go_simp
       try simp only[Act.put,List.getElem_toArray,List.getElem_cons_zero,List.getElem_cons_succ,List.setIfInBounds_toArray,List.set_cons_zero,List.set_cons_succ]
       refine wpAnyH_take (i:=4) (oi:=_) (v:= .int .i64 lf) rfl (by kernel_rfl) (by kernel_rfl) (by kernel_rfl) (fun _ _ _ h=>h) (Or.inl ⟨by rfl,?_⟩) (by assumption) ?_
       ·intro w hSw
        try dsimp only at hSw
        go_split_ands
        go_simp
       try simp only[Act.put,List.getElem_toArray,List.getElem_cons_zero,List.getElem_cons_succ,List.setIfInBounds_toArray,List.set_cons_zero,List.set_cons_succ]
       refine wpAnyH_take (i:=5) (oi:=_) (v:= .pointer (some ⟨W.heap.size+1,2,none⟩)) rfl (by kernel_rfl) (by kernel_rfl) (by kernel_rfl) (fun _ _ _ h=>h) (Or.inl ⟨by rfl,?_⟩) (by assumption) ?_
       ·intro w hSw
        try dsimp only at hSw
        go_split_ands
        go_simp
       try simp only[Act.put,List.getElem_toArray,List.getElem_cons_zero,List.getElem_cons_succ,List.setIfInBounds_toArray,List.set_cons_zero,List.set_cons_succ]
       refine wpAnyH_take (i:=6) (oi:=_) (v:= .int .i64 on) rfl (by kernel_rfl) (by kernel_rfl) (by kernel_rfl) (fun _ _ _ h=>h) (Or.inl ⟨by rfl,?_⟩) (by assumption) ?_
       ·intro w hSw
        try dsimp only at hSw
        go_split_ands
        go_simp
       try simp only[Act.put,List.getElem_toArray,List.getElem_cons_zero,List.getElem_cons_succ,List.setIfInBounds_toArray,List.set_cons_zero,List.set_cons_succ]
       refine wpAnyH_take (i:=7) (oi:=_) (v:= .int .i64 lk) rfl (by kernel_rfl) (by kernel_rfl) (by kernel_rfl) (fun _ _ _ h=>h) (Or.inl ⟨by rfl,?_⟩) (by assumption) ?_
       ·intro w hSw
        try dsimp only at hSw
        go_split_ands
        go_simp
       try simp only[Act.put,List.getElem_toArray,List.getElem_cons_zero,List.getElem_cons_succ,List.setIfInBounds_toArray,List.set_cons_zero,List.set_cons_succ]
       refine wpAnyH_ready (rs:=[3]) (by kernel_rfl) (by simp) ?_
       refine AllReadyH.cons (o:=_) rfl (fun K1 hK=>?_) AllReadyH.nil
       clear hHeld
       go_simp
       refine(LL.out _ (Below.refl _ _).drew).mono ?_
       rintro e wa ⟨rfl,hb⟩
       have BA:Hid (Below KQ.heap.size KQ wa):=Lib.hid ((Below.refl _ _).drew.trans hb)
       have KA:=Lib.hid (KeepP.below BA.out)
       clear hb
       refine hK.out _ _ (by exact CL.out wa KA.out) (fun hHeld=>?_)
       clear hK K1
       try simp only[Act.put,List.getElem_toArray,List.getElem_cons_zero,List.getElem_cons_succ,List.setIfInBounds_toArray,List.set_cons_zero,List.set_cons_succ]
       refine wpAnyH_take (i:=8) (oi:=_) (v:= .bool false) rfl (by kernel_rfl) (by kernel_rfl) (by kernel_rfl) (fun _ _ _ h=>h) (Or.inl ⟨by rfl,?_⟩) (by assumption) ?_
       ·intro w hSw
        try dsimp only at hSw
        go_split_ands
        go_simp
       try simp only[Act.put,List.getElem_toArray,List.getElem_cons_zero,List.getElem_cons_succ,List.setIfInBounds_toArray,List.set_cons_zero,List.set_cons_succ]
       refine wpAnyH_take (i:=9) (oi:=_) (v:= .bool false) rfl (by kernel_rfl) (by kernel_rfl) (by kernel_rfl) (fun _ _ _ h=>h) (Or.inl ⟨by rfl,?_⟩) (by assumption) ?_
       ·intro w hSw
        try dsimp only at hSw
        go_split_ands
        go_simp
       try simp only[Act.put,List.getElem_toArray,List.getElem_cons_zero,List.getElem_cons_succ,List.setIfInBounds_toArray,List.set_cons_zero,List.set_cons_succ]
       refine wpAnyH_take (i:=10) (oi:=_) (v:=undef) rfl (by kernel_rfl) (by kernel_rfl) (by kernel_rfl) (fun _ _ _ h=>h) (Or.inr ⟨by rfl,rfl⟩) (by assumption) ?_
       try simp only[Act.put,List.getElem_toArray,List.getElem_cons_zero,List.getElem_cons_succ,List.setIfInBounds_toArray,List.set_cons_zero,List.set_cons_succ]
       refine wpAnyH_take (i:=11) (oi:=_) (v:=undef) rfl (by kernel_rfl) (by kernel_rfl) (by kernel_rfl) (fun _ _ _ h=>h) (Or.inr ⟨by rfl,rfl⟩) (by assumption) ?_
       try simp only[Act.put,List.getElem_toArray,List.getElem_cons_zero,List.getElem_cons_succ,List.setIfInBounds_toArray,List.set_cons_zero,List.set_cons_succ]
       refine wpAnyH_take (i:=12) (oi:=_) (v:=undef) rfl (by kernel_rfl) (by kernel_rfl) (by kernel_rfl) (fun _ _ _ h=>h) (Or.inr ⟨by rfl,rfl⟩) (by assumption) ?_
       try simp only[Act.put,List.getElem_toArray,List.getElem_cons_zero,List.getElem_cons_succ,List.setIfInBounds_toArray,List.set_cons_zero,List.set_cons_succ]
       refine wpAnyH_take (i:=13) (oi:=_) (v:=undef) rfl (by kernel_rfl) (by kernel_rfl) (by kernel_rfl) (fun _ _ _ h=>h) (Or.inr ⟨by rfl,rfl⟩) (by assumption) ?_
       try simp only[Act.put,List.getElem_toArray,List.getElem_cons_zero,List.getElem_cons_succ,List.setIfInBounds_toArray,List.set_cons_zero,List.set_cons_succ]
       refine wpAnyH_take (i:=14) (oi:=_) (v:= .bool false) rfl (by kernel_rfl) (by kernel_rfl) (by kernel_rfl) (fun _ _ _ h=>h) (Or.inl ⟨by rfl,?_⟩) (by assumption) ?_
       ·intro w hSw
        try dsimp only at hSw
        go_split_ands
        go_simp
       try simp only[Act.put,List.getElem_toArray,List.getElem_cons_zero,List.getElem_cons_succ,List.setIfInBounds_toArray,List.set_cons_zero,List.set_cons_succ]
       refine wpAnyH_take (i:=15) (oi:=_) (v:= .bool false) rfl (by kernel_rfl) (by kernel_rfl) (by kernel_rfl) (fun _ _ _ h=>h) (Or.inl ⟨by rfl,?_⟩) (by assumption) ?_
       ·intro w hSw
        try dsimp only at hSw
        go_split_ands
        go_simp
       try simp only[Act.put,List.getElem_toArray,List.getElem_cons_zero,List.getElem_cons_succ,List.setIfInBounds_toArray,List.set_cons_zero,List.set_cons_succ]
       refine wpAnyH_take (i:=16) (oi:=_) (v:= .pointer (some ⟨J.ps,0,none⟩)) rfl (by kernel_rfl) (by kernel_rfl) (by kernel_rfl) (fun _ _ _ h=>h) (Or.inl ⟨by rfl,?_⟩) (by assumption) ?_
       ·intro w hSw
        try dsimp only at hSw
        go_split_ands
        go_simp
       try simp only[Act.put,List.getElem_toArray,List.getElem_cons_zero,List.getElem_cons_succ,List.setIfInBounds_toArray,List.set_cons_zero,List.set_cons_succ]
       refine wpAnyH_take (i:=17) (oi:=_) (v:= .pointer (some ⟨W.heap.size+1,1,none⟩)) rfl (by kernel_rfl) (by kernel_rfl) (by kernel_rfl) (fun _ _ _ h=>h) (Or.inl ⟨by rfl,?_⟩) (by assumption) ?_
       ·intro w hSw
        try dsimp only at hSw
        go_split_ands
        go_simp
       try simp only[Act.put,List.getElem_toArray,List.getElem_cons_zero,List.getElem_cons_succ,List.setIfInBounds_toArray,List.set_cons_zero,List.set_cons_succ]
       refine wpAnyH_take (i:=18) (oi:=_) (v:= .int .i64 op) rfl (by kernel_rfl) (by kernel_rfl) (by kernel_rfl) (fun _ _ _ h=>h) (Or.inl ⟨by rfl,?_⟩) (by assumption) ?_
       ·intro w hSw
        try dsimp only at hSw
        go_split_ands
        go_simp
       try simp only[Act.put,List.getElem_toArray,List.getElem_cons_zero,List.getElem_cons_succ,List.setIfInBounds_toArray,List.set_cons_zero,List.set_cons_succ]
       refine wpAnyH_take (i:=19) (oi:=_) (v:= .int .i64 xc) rfl (by kernel_rfl) (by kernel_rfl) (by kernel_rfl) (fun _ _ _ h=>h) (Or.inl ⟨by rfl,?_⟩) (by assumption) ?_
       ·intro w hSw
        try dsimp only at hSw
        go_split_ands
        go_simp
       try simp only[Act.put,List.getElem_toArray,List.getElem_cons_zero,List.getElem_cons_succ,List.setIfInBounds_toArray,List.set_cons_zero,List.set_cons_succ]
       refine wpAnyH_ready (rs:=[20]) (by kernel_rfl) (by simp) ?_
       refine AllReadyH.cons (o:=_) rfl (fun K1 hK=>?_) AllReadyH.nil
       clear hHeld
       go_simp
       refine(KL.out wa BA.out).mono ?_
       rintro e wb ⟨rfl,hk,hs⟩
       have SB:=Lib.hid hs
       have KB:=Lib.hid (KA.out.trans hk)
       clear hk hs
       refine hK.out _ _ (by exact CL.out wb KB.out) (fun hHeld=>?_)
       clear hK K1
       try simp only[Act.put,List.getElem_toArray,List.getElem_cons_zero,List.getElem_cons_succ,List.setIfInBounds_toArray,List.set_cons_zero,List.set_cons_succ]
       refine wpAnyH_take (i:=21) (oi:=_) (v:= .bool false) rfl (by kernel_rfl) (by kernel_rfl) (by kernel_rfl) (fun _ _ _ h=>h) (Or.inl ⟨by rfl,?_⟩) (by assumption) ?_
       ·intro w hSw
        try dsimp only at hSw
        go_split_ands
        go_simp
       try simp only[Act.put,List.getElem_toArray,List.getElem_cons_zero,List.getElem_cons_succ,List.setIfInBounds_toArray,List.set_cons_zero,List.set_cons_succ]
       refine wpAnyH_take (i:=22) (oi:=_) (v:= .bool false) rfl (by kernel_rfl) (by kernel_rfl) (by kernel_rfl) (fun _ _ _ h=>h) (Or.inl ⟨by rfl,?_⟩) (by assumption) ?_
       ·intro w hSw
        try dsimp only at hSw
        go_split_ands
        go_simp
       try simp only[Act.put,List.getElem_toArray,List.getElem_cons_zero,List.getElem_cons_succ,List.setIfInBounds_toArray,List.set_cons_zero,List.set_cons_succ]
       refine wpAnyH_take (i:=23) (oi:=_) (v:= .bool false) rfl (by kernel_rfl) (by kernel_rfl) (by kernel_rfl) (fun _ _ _ h=>h) (Or.inl ⟨by rfl,?_⟩) (by assumption) ?_
       ·intro w hSw
        try dsimp only at hSw
        go_split_ands
        go_simp
       try simp only[Act.put,List.getElem_toArray,List.getElem_cons_zero,List.getElem_cons_succ,List.setIfInBounds_toArray,List.set_cons_zero,List.set_cons_succ]
       refine wpAnyH_take (i:=24) (oi:=_) (v:= .pointer (some ⟨J.ps,0,none⟩)) rfl (by kernel_rfl) (by kernel_rfl) (by kernel_rfl) (fun _ _ _ h=>h) (Or.inl ⟨by rfl,?_⟩) (by assumption) ?_
       ·intro w hSw
        try dsimp only at hSw
        go_split_ands
        go_simp
       try simp only[Act.put,List.getElem_toArray,List.getElem_cons_zero,List.getElem_cons_succ,List.setIfInBounds_toArray,List.set_cons_zero,List.set_cons_succ]
       refine wpAnyH_take (i:=25) (oi:=_) (v:= .pointer (some ⟨W.heap.size+1,1,none⟩)) rfl (by kernel_rfl) (by kernel_rfl) (by kernel_rfl) (fun _ _ _ h=>h) (Or.inl ⟨by rfl,?_⟩) (by assumption) ?_
       ·intro w hSw
        try dsimp only at hSw
        go_split_ands
        go_simp
       try simp only[Act.put,List.getElem_toArray,List.getElem_cons_zero,List.getElem_cons_succ,List.setIfInBounds_toArray,List.set_cons_zero,List.set_cons_succ]
       refine wpAnyH_take (i:=26) (oi:=_) (v:= .int .i64 op) rfl (by kernel_rfl) (by kernel_rfl) (by kernel_rfl) (fun _ _ _ h=>h) (Or.inl ⟨by rfl,?_⟩) (by assumption) ?_
       ·intro w hSw
        try dsimp only at hSw
        go_split_ands
        go_simp
       try simp only[Act.put,List.getElem_toArray,List.getElem_cons_zero,List.getElem_cons_succ,List.setIfInBounds_toArray,List.set_cons_zero,List.set_cons_succ]
       refine wpAnyH_take (i:=28) (oi:=_) (v:= .int .i64 lf) rfl (by kernel_rfl) (by kernel_rfl) (by kernel_rfl) (fun _ _ _ h=>h) (Or.inl ⟨by rfl,?_⟩) (by assumption) ?_
       ·intro w hSw
        try dsimp only at hSw
        go_split_ands
        go_simp
       try simp only[Act.put,List.getElem_toArray,List.getElem_cons_zero,List.getElem_cons_succ,List.setIfInBounds_toArray,List.set_cons_zero,List.set_cons_succ]
       refine wpAnyH_ready (rs:=[27]) (by kernel_rfl) (by simp) ?_
       refine AllReadyH.cons (o:=_) rfl (fun K1 hK=>?_) AllReadyH.nil
       clear hHeld
       go_simp
       refine(SB.out.left op HF.out.symm).mono ?_
       rintro e we ⟨rfl,hb⟩
       have SC:=Lib.hid (SB.out.step hb)
       have KC:=Lib.hid (KB.out.trans (KeepP.below hb))
       clear hb
       refine hK.out _ _ (by exact CL.out we KC.out) (fun hHeld=>?_)
       clear hK K1
       try simp only[Act.put,List.getElem_toArray,List.getElem_cons_zero,List.getElem_cons_succ,List.setIfInBounds_toArray,List.set_cons_zero,List.set_cons_succ]
       refine wpAnyH_take (i:=29) (oi:=_) (v:= .bool false) rfl (by kernel_rfl) (by kernel_rfl) (by kernel_rfl) (fun _ _ _ h=>h) (Or.inl ⟨by rfl,?_⟩) (by assumption) ?_
       ·intro w hSw
        try dsimp only at hSw
        go_split_ands
        go_simp
       try simp only[Act.put,List.getElem_toArray,List.getElem_cons_zero,List.getElem_cons_succ,List.setIfInBounds_toArray,List.set_cons_zero,List.set_cons_succ]
       refine wpAnyH_take (i:=30) (oi:=_) (v:= .bool false) rfl (by kernel_rfl) (by kernel_rfl) (by kernel_rfl) (fun _ _ _ h=>h) (Or.inl ⟨by rfl,?_⟩) (by assumption) ?_
       ·intro w hSw
        try dsimp only at hSw
        go_split_ands
        go_simp
       try simp only[Act.put,List.getElem_toArray,List.getElem_cons_zero,List.getElem_cons_succ,List.setIfInBounds_toArray,List.set_cons_zero,List.set_cons_succ]
       refine wpAnyH_take (i:=31) (oi:=_) (v:= .bool false) rfl (by kernel_rfl) (by kernel_rfl) (by kernel_rfl) (fun _ _ _ h=>h) (Or.inl ⟨by rfl,?_⟩) (by assumption) ?_
       ·intro w hSw
        try dsimp only at hSw
        go_split_ands
        go_simp
       try simp only[Act.put,List.getElem_toArray,List.getElem_cons_zero,List.getElem_cons_succ,List.setIfInBounds_toArray,List.set_cons_zero,List.set_cons_succ]
       refine wpAnyH_take (i:=32) (oi:=_) (v:= .pointer (some ⟨J.I.X.pb,0,none⟩)) rfl (by kernel_rfl) (by kernel_rfl) (by kernel_rfl) (fun _ _ _ h=>h) (Or.inl ⟨by rfl,?_⟩) (by assumption) ?_
       ·intro w hSw
        try dsimp only at hSw
        go_split_ands
        go_simp
       try simp only[Act.put,List.getElem_toArray,List.getElem_cons_zero,List.getElem_cons_succ,List.setIfInBounds_toArray,List.set_cons_zero,List.set_cons_succ]
       refine wpAnyH_take (i:=34) (oi:=_) (v:= .int .i64 (c:Int)) rfl (by kernel_rfl) (by kernel_rfl) (by kernel_rfl) (fun _ _ _ h=>h) (Or.inl ⟨by rfl,?_⟩) (by assumption) ?_
       ·intro w hSw
        try dsimp only at hSw
        go_split_ands
        go_simp
       try simp only[Act.put,List.getElem_toArray,List.getElem_cons_zero,List.getElem_cons_succ,List.setIfInBounds_toArray,List.set_cons_zero,List.set_cons_succ]
       refine wpAnyH_ready (rs:=[33]) (by kernel_rfl) (by simp) ?_
       refine AllReadyH.cons (o:=_) rfl (fun K1 hK=>?_) AllReadyH.nil
       clear hHeld
       go_simp
       refine(SC.out.free).mono ?_
       rintro e wd ⟨rfl,hb⟩
       have SD:=Lib.hid (SC.out.step hb)
       have KD:=Lib.hid (KC.out.trans (KeepP.below hb))
       clear hb
       refine hK.out _ _ (by exact CL.out wd KD.out) (fun hHeld=>?_)
       clear hK K1
       try simp only[Act.put,List.getElem_toArray,List.getElem_cons_zero,List.getElem_cons_succ,List.setIfInBounds_toArray,List.set_cons_zero,List.set_cons_succ]
       refine wpAnyH_take (i:=35) (oi:=_) (v:= .bool false) rfl (by kernel_rfl) (by kernel_rfl) (by kernel_rfl) (fun _ _ _ h=>h) (Or.inl ⟨by rfl,?_⟩) (by assumption) ?_
       ·intro w hSw
        try dsimp only at hSw
        go_split_ands
        go_simp
       try simp only[Act.put,List.getElem_toArray,List.getElem_cons_zero,List.getElem_cons_succ,List.setIfInBounds_toArray,List.set_cons_zero,List.set_cons_succ]
       refine wpAnyH_take (i:=36) (oi:=_) (v:= .bool false) rfl (by kernel_rfl) (by kernel_rfl) (by kernel_rfl) (fun _ _ _ h=>h) (Or.inl ⟨by rfl,?_⟩) (by assumption) ?_
       ·intro w hSw
        try dsimp only at hSw
        go_split_ands
        go_simp
       try simp only[Act.put,List.getElem_toArray,List.getElem_cons_zero,List.getElem_cons_succ,List.setIfInBounds_toArray,List.set_cons_zero,List.set_cons_succ]
       refine wpAnyH_done (by kernel_rfl) ?_ _
       refine NoPanic.normal ?_
       have c7':=(OC.out wd (K20.out.trans KD.out)).2.2
       clear hHeld
       go_wp2_with fail
       refine(END.out wd SD.out.below).mono ?_
       rintro e wz ⟨rfl,hz⟩
       have BZ:=Lib.hid hz
       clear hz
       go_wp2_with fail
       go_ret
       exact⟨rfl,BZ.out⟩
    ·as_aux_lemma=>
      subst hy
      have S9:=Lib.hid hs
      clear hs
      go_wp2_with fail
      refine(S9.out.exit (a:=0) (by decide)).mono ?_
      rintro e w10 ⟨rfl,hk,hs⟩
      have S10:=Lib.hid hs
      have K10:=Lib.hid (K9.out.trans hk)
      clear hk hs c1 c2 c7
      obtain⟨c1,c2,c7⟩:=OC.out w10 K10.out
      go_wp2_with fail
      refine(S10.out.wait OI.out.1).mono ?_
      rintro e w11 ⟨⟨r11,rfl⟩,hk,tl',hs⟩
      have S11:=Lib.hid hs
      have K11:=Lib.hid (K10.out.trans hk)
      clear hk hs c1 c2 c7
      have SP:=Lib.hid (S11.out.spawn (p:=op) (k:=on) OI.out.1 OI.out.2.2)
      obtain⟨c1,c2,c7⟩:=OC.out w11 K11.out
      go_wp2_with fail
      refine SP.out.mono ?_
      rintro e KQ ⟨hk,xc,y2,rfl,hxy⟩
      have K20:=Lib.hid (K11.out.trans hk)
      clear hk c1 c2 c7 SP
      rcases hxy with⟨hy2,hs2⟩|⟨rfl,hs2⟩
      ·have Wx:=Lib.hid hs2
       have n2:(y2 !=0)=true:=by simpa using hy2
       clear hs2
       go_wp2_with fail
       refine(END.out KQ Wx.out.below).mono ?_
       rintro e wz ⟨rfl,hz⟩
       have BZ:=Lib.hid hz
       clear hz
       go_wp2_with fail
       go_ret
       exact⟨rfl,BZ.out⟩
      ·have Wx:=Lib.hid hs2
       clear hs2
       go_upto_region 19 with fail
       have QN:=Lib.hid Wx.out.quota
       obtain⟨lk,hlk⟩:∃lk,lk=lf-on:=⟨_,rfl⟩
       have ew:IntKind.i64.wrap (lf-on)=lk:=by rw[hlk,IntKind.wrap_i64];have:=LB.out;have:=QN.out;omega
       have CL:Hid (∀V,KeepP KQ V→V.cell? ⟨W.heap.size+1,1,none⟩=some (.int .i64 op)∧V.cell? ⟨W.heap.size+1,2,none⟩=some (.int .i64 on)):=Lib.hid fun V hk=>⟨(OC.out V (K20.out.trans hk)).1,(OC.out V (K20.out.trans hk)).2.1⟩
       have LL:=Lib.hid (fun V (hb:Below KQ.heap.size KQ V)=>(Wx.out.step hb).left (d:=lk) (by rw[hlk,HF.out]))
       have KL:=Lib.hid (fun V (hb:Below KQ.heap.size KQ V)=>(Wx.out.step hb).kill (a:=1) (by decide))
       have e1:(lk !=lk)=false:=by simp
       have e2:(lf !=lf)=false:=by simp
       have e3:((c:Int) !=(c:Int))=false:=by simp
       clear hlk
       go_wp2_with fail
       refine wp_region_noPanic ?_
       refine wp_region_held_drew (S:=(fun V=>V.cell? ⟨W.heap.size+1,1,none⟩=some (.int .i64 op)∧V.cell? ⟨W.heap.size+1,2,none⟩=some (.int .i64 on))) (by kernel_rfl) (by exact CL.out _ (KeepP.below (Below.refl _ _).drew)) (fun hHeld=>?_)
       refine wpAnyH_take (i:=0) (oi:=_) (v:= .pointer (some ⟨J.ps,0,none⟩)) rfl (by kernel_rfl) (by kernel_rfl) (by kernel_rfl) (fun _ _ _ h=>h) (Or.inl ⟨by rfl,?_⟩) (by assumption) ?_
       ·intro w hSw
        try dsimp only at hSw
        go_split_ands
        go_simp
       try simp only[Act.put,List.getElem_toArray,List.getElem_cons_zero,List.setIfInBounds_toArray,List.set_cons_zero,List.set_cons_succ]
       refine wpAnyH_take (i:=1) (oi:=_) (v:= .pointer (some ⟨W.heap.size+1,1,none⟩)) rfl (by kernel_rfl) (by kernel_rfl) (by kernel_rfl) (fun _ _ _ h=>h) (Or.inl ⟨by rfl,?_⟩) (by assumption) ?_
       ·intro w hSw
        try dsimp only at hSw
        go_split_ands
        go_simp
       try simp only[Act.put,List.getElem_toArray,List.getElem_cons_zero,List.getElem_cons_succ,List.setIfInBounds_toArray,List.set_cons_zero,List.set_cons_succ]
       refine wpAnyH_take (i:=2) (oi:=_) (v:= .int .i64 op) rfl (by kernel_rfl) (by kernel_rfl) (by kernel_rfl) (fun _ _ _ h=>h) (Or.inl ⟨by rfl,?_⟩) (by assumption) ?_
       ·intro w hSw
        try dsimp only at hSw
        go_split_ands
        go_simp
       try simp only[Act.put,List.getElem_toArray,List.getElem_cons_zero,List.getElem_cons_succ,List.setIfInBounds_toArray,List.set_cons_zero,List.set_cons_succ]
       refine wpAnyH_take (i:=4) (oi:=_) (v:= .int .i64 lf) rfl (by kernel_rfl) (by kernel_rfl) (by kernel_rfl) (fun _ _ _ h=>h) (Or.inl ⟨by rfl,?_⟩) (by assumption) ?_
       ·intro w hSw
        try dsimp only at hSw
        go_split_ands
        go_simp
       try simp only[Act.put,List.getElem_toArray,List.getElem_cons_zero,List.getElem_cons_succ,List.setIfInBounds_toArray,List.set_cons_zero,List.set_cons_succ]
       refine wpAnyH_take (i:=5) (oi:=_) (v:= .pointer (some ⟨W.heap.size+1,2,none⟩)) rfl (by kernel_rfl) (by kernel_rfl) (by kernel_rfl) (fun _ _ _ h=>h) (Or.inl ⟨by rfl,?_⟩) (by assumption) ?_
       ·intro w hSw
        try dsimp only at hSw
        go_split_ands
        go_simp
       try simp only[Act.put,List.getElem_toArray,List.getElem_cons_zero,List.getElem_cons_succ,List.setIfInBounds_toArray,List.set_cons_zero,List.set_cons_succ]
       refine wpAnyH_take (i:=6) (oi:=_) (v:= .int .i64 on) rfl (by kernel_rfl) (by kernel_rfl) (by kernel_rfl) (fun _ _ _ h=>h) (Or.inl ⟨by rfl,?_⟩) (by assumption) ?_
       ·intro w hSw
        try dsimp only at hSw
        go_split_ands
        go_simp
       try simp only[Act.put,List.getElem_toArray,List.getElem_cons_zero,List.getElem_cons_succ,List.setIfInBounds_toArray,List.set_cons_zero,List.set_cons_succ]
       refine wpAnyH_take (i:=7) (oi:=_) (v:= .int .i64 lk) rfl (by kernel_rfl) (by kernel_rfl) (by kernel_rfl) (fun _ _ _ h=>h) (Or.inl ⟨by rfl,?_⟩) (by assumption) ?_
       ·intro w hSw
        try dsimp only at hSw
        go_split_ands
        go_simp
       try simp only[Act.put,List.getElem_toArray,List.getElem_cons_zero,List.getElem_cons_succ,List.setIfInBounds_toArray,List.set_cons_zero,List.set_cons_succ]
       refine wpAnyH_ready (rs:=[3]) (by kernel_rfl) (by simp) ?_
       refine AllReadyH.cons (o:=_) rfl (fun K1 hK=>?_) AllReadyH.nil
       clear hHeld
       go_simp
       refine(LL.out _ (Below.refl _ _).drew).mono ?_
       rintro e wa ⟨rfl,hb⟩
       have BA:Hid (Below KQ.heap.size KQ wa):=Lib.hid ((Below.refl _ _).drew.trans hb)
       have KA:=Lib.hid (KeepP.below BA.out)
       clear hb
       refine hK.out _ _ (by exact CL.out wa KA.out) (fun hHeld=>?_)
       clear hK K1
       try simp only[Act.put,List.getElem_toArray,List.getElem_cons_zero,List.getElem_cons_succ,List.setIfInBounds_toArray,List.set_cons_zero,List.set_cons_succ]
       refine wpAnyH_take (i:=8) (oi:=_) (v:= .bool false) rfl (by kernel_rfl) (by kernel_rfl) (by kernel_rfl) (fun _ _ _ h=>h) (Or.inl ⟨by rfl,?_⟩) (by assumption) ?_
       ·intro w hSw
        try dsimp only at hSw
        go_split_ands
        go_simp
       try simp only[Act.put,List.getElem_toArray,List.getElem_cons_zero,List.getElem_cons_succ,List.setIfInBounds_toArray,List.set_cons_zero,List.set_cons_succ]
       refine wpAnyH_take (i:=9) (oi:=_) (v:= .bool false) rfl (by kernel_rfl) (by kernel_rfl) (by kernel_rfl) (fun _ _ _ h=>h) (Or.inl ⟨by rfl,?_⟩) (by assumption) ?_
       ·intro w hSw
        try dsimp only at hSw
        go_split_ands
        go_simp
       try simp only[Act.put,List.getElem_toArray,List.getElem_cons_zero,List.getElem_cons_succ,List.setIfInBounds_toArray,List.set_cons_zero,List.set_cons_succ]
       refine wpAnyH_take (i:=10) (oi:=_) (v:=undef) rfl (by kernel_rfl) (by kernel_rfl) (by kernel_rfl) (fun _ _ _ h=>h) (Or.inr ⟨by rfl,rfl⟩) (by assumption) ?_
       try simp only[Act.put,List.getElem_toArray,List.getElem_cons_zero,List.getElem_cons_succ,List.setIfInBounds_toArray,List.set_cons_zero,List.set_cons_succ]
       refine wpAnyH_take (i:=11) (oi:=_) (v:=undef) rfl (by kernel_rfl) (by kernel_rfl) (by kernel_rfl) (fun _ _ _ h=>h) (Or.inr ⟨by rfl,rfl⟩) (by assumption) ?_
       try simp only[Act.put,List.getElem_toArray,List.getElem_cons_zero,List.getElem_cons_succ,List.setIfInBounds_toArray,List.set_cons_zero,List.set_cons_succ]
       refine wpAnyH_take (i:=12) (oi:=_) (v:=undef) rfl (by kernel_rfl) (by kernel_rfl) (by kernel_rfl) (fun _ _ _ h=>h) (Or.inr ⟨by rfl,rfl⟩) (by assumption) ?_
       try simp only[Act.put,List.getElem_toArray,List.getElem_cons_zero,List.getElem_cons_succ,List.setIfInBounds_toArray,List.set_cons_zero,List.set_cons_succ]
       refine wpAnyH_take (i:=13) (oi:=_) (v:=undef) rfl (by kernel_rfl) (by kernel_rfl) (by kernel_rfl) (fun _ _ _ h=>h) (Or.inr ⟨by rfl,rfl⟩) (by assumption) ?_
       try simp only[Act.put,List.getElem_toArray,List.getElem_cons_zero,List.getElem_cons_succ,List.setIfInBounds_toArray,List.set_cons_zero,List.set_cons_succ]
       refine wpAnyH_take (i:=14) (oi:=_) (v:= .bool false) rfl (by kernel_rfl) (by kernel_rfl) (by kernel_rfl) (fun _ _ _ h=>h) (Or.inl ⟨by rfl,?_⟩) (by assumption) ?_
       ·intro w hSw
        try dsimp only at hSw
        go_split_ands
        go_simp
       try simp only[Act.put,List.getElem_toArray,List.getElem_cons_zero,List.getElem_cons_succ,List.setIfInBounds_toArray,List.set_cons_zero,List.set_cons_succ]
       refine wpAnyH_take (i:=15) (oi:=_) (v:= .bool false) rfl (by kernel_rfl) (by kernel_rfl) (by kernel_rfl) (fun _ _ _ h=>h) (Or.inl ⟨by rfl,?_⟩) (by assumption) ?_
       ·intro w hSw
        try dsimp only at hSw
        go_split_ands
        go_simp
       try simp only[Act.put,List.getElem_toArray,List.getElem_cons_zero,List.getElem_cons_succ,List.setIfInBounds_toArray,List.set_cons_zero,List.set_cons_succ]
       refine wpAnyH_take (i:=16) (oi:=_) (v:= .pointer (some ⟨J.ps,0,none⟩)) rfl (by kernel_rfl) (by kernel_rfl) (by kernel_rfl) (fun _ _ _ h=>h) (Or.inl ⟨by rfl,?_⟩) (by assumption) ?_
       ·intro w hSw
        try dsimp only at hSw
        go_split_ands
        go_simp
       try simp only[Act.put,List.getElem_toArray,List.getElem_cons_zero,List.getElem_cons_succ,List.setIfInBounds_toArray,List.set_cons_zero,List.set_cons_succ]
       refine wpAnyH_take (i:=17) (oi:=_) (v:= .pointer (some ⟨W.heap.size+1,1,none⟩)) rfl (by kernel_rfl) (by kernel_rfl) (by kernel_rfl) (fun _ _ _ h=>h) (Or.inl ⟨by rfl,?_⟩) (by assumption) ?_
       ·intro w hSw
        try dsimp only at hSw
        go_split_ands
        go_simp
       try simp only[Act.put,List.getElem_toArray,List.getElem_cons_zero,List.getElem_cons_succ,List.setIfInBounds_toArray,List.set_cons_zero,List.set_cons_succ]
       refine wpAnyH_take (i:=18) (oi:=_) (v:= .int .i64 op) rfl (by kernel_rfl) (by kernel_rfl) (by kernel_rfl) (fun _ _ _ h=>h) (Or.inl ⟨by rfl,?_⟩) (by assumption) ?_
       ·intro w hSw
        try dsimp only at hSw
        go_split_ands
        go_simp
       try simp only[Act.put,List.getElem_toArray,List.getElem_cons_zero,List.getElem_cons_succ,List.setIfInBounds_toArray,List.set_cons_zero,List.set_cons_succ]
       refine wpAnyH_take (i:=19) (oi:=_) (v:= .int .i64 xc) rfl (by kernel_rfl) (by kernel_rfl) (by kernel_rfl) (fun _ _ _ h=>h) (Or.inl ⟨by rfl,?_⟩) (by assumption) ?_
       ·intro w hSw
        try dsimp only at hSw
        go_split_ands
        go_simp
       try simp only[Act.put,List.getElem_toArray,List.getElem_cons_zero,List.getElem_cons_succ,List.setIfInBounds_toArray,List.set_cons_zero,List.set_cons_succ]
       refine wpAnyH_ready (rs:=[20]) (by kernel_rfl) (by simp) ?_
       refine AllReadyH.cons (o:=_) rfl (fun K1 hK=>?_) AllReadyH.nil
       clear hHeld
       go_simp
       refine(KL.out wa BA.out).mono ?_
       rintro e wb ⟨rfl,hk,hs⟩
       have SB:=Lib.hid hs
       have KB:=Lib.hid (KA.out.trans hk)
       clear hk hs
       refine hK.out _ _ (by exact CL.out wb KB.out) (fun hHeld=>?_)
       clear hK K1
       try simp only[Act.put,List.getElem_toArray,List.getElem_cons_zero,List.getElem_cons_succ,List.setIfInBounds_toArray,List.set_cons_zero,List.set_cons_succ]
       refine wpAnyH_take (i:=21) (oi:=_) (v:= .bool false) rfl (by kernel_rfl) (by kernel_rfl) (by kernel_rfl) (fun _ _ _ h=>h) (Or.inl ⟨by rfl,?_⟩) (by assumption) ?_
       ·intro w hSw
        try dsimp only at hSw
        go_split_ands
        go_simp
       try simp only[Act.put,List.getElem_toArray,List.getElem_cons_zero,List.getElem_cons_succ,List.setIfInBounds_toArray,List.set_cons_zero,List.set_cons_succ]
       refine wpAnyH_take (i:=22) (oi:=_) (v:= .bool false) rfl (by kernel_rfl) (by kernel_rfl) (by kernel_rfl) (fun _ _ _ h=>h) (Or.inl ⟨by rfl,?_⟩) (by assumption) ?_
       ·intro w hSw
        try dsimp only at hSw
        go_split_ands
        go_simp
       try simp only[Act.put,List.getElem_toArray,List.getElem_cons_zero,List.getElem_cons_succ,List.setIfInBounds_toArray,List.set_cons_zero,List.set_cons_succ]
       refine wpAnyH_take (i:=23) (oi:=_) (v:= .bool false) rfl (by kernel_rfl) (by kernel_rfl) (by kernel_rfl) (fun _ _ _ h=>h) (Or.inl ⟨by rfl,?_⟩) (by assumption) ?_
       ·intro w hSw
        try dsimp only at hSw
        go_split_ands
        go_simp
       try simp only[Act.put,List.getElem_toArray,List.getElem_cons_zero,List.getElem_cons_succ,List.setIfInBounds_toArray,List.set_cons_zero,List.set_cons_succ]
       refine wpAnyH_take (i:=24) (oi:=_) (v:= .pointer (some ⟨J.ps,0,none⟩)) rfl (by kernel_rfl) (by kernel_rfl) (by kernel_rfl) (fun _ _ _ h=>h) (Or.inl ⟨by rfl,?_⟩) (by assumption) ?_
       ·intro w hSw
        try dsimp only at hSw
        go_split_ands
        go_simp
       try simp only[Act.put,List.getElem_toArray,List.getElem_cons_zero,List.getElem_cons_succ,List.setIfInBounds_toArray,List.set_cons_zero,List.set_cons_succ]
       refine wpAnyH_take (i:=25) (oi:=_) (v:= .pointer (some ⟨W.heap.size+1,1,none⟩)) rfl (by kernel_rfl) (by kernel_rfl) (by kernel_rfl) (fun _ _ _ h=>h) (Or.inl ⟨by rfl,?_⟩) (by assumption) ?_
       ·intro w hSw
        try dsimp only at hSw
        go_split_ands
        go_simp
       try simp only[Act.put,List.getElem_toArray,List.getElem_cons_zero,List.getElem_cons_succ,List.setIfInBounds_toArray,List.set_cons_zero,List.set_cons_succ]
       refine wpAnyH_take (i:=26) (oi:=_) (v:= .int .i64 op) rfl (by kernel_rfl) (by kernel_rfl) (by kernel_rfl) (fun _ _ _ h=>h) (Or.inl ⟨by rfl,?_⟩) (by assumption) ?_
       ·intro w hSw
        try dsimp only at hSw
        go_split_ands
        go_simp
       try simp only[Act.put,List.getElem_toArray,List.getElem_cons_zero,List.getElem_cons_succ,List.setIfInBounds_toArray,List.set_cons_zero,List.set_cons_succ]
       refine wpAnyH_take (i:=28) (oi:=_) (v:= .int .i64 lf) rfl (by kernel_rfl) (by kernel_rfl) (by kernel_rfl) (fun _ _ _ h=>h) (Or.inl ⟨by rfl,?_⟩) (by assumption) ?_
       ·intro w hSw
        try dsimp only at hSw
        go_split_ands
        go_simp
       try simp only[Act.put,List.getElem_toArray,List.getElem_cons_zero,List.getElem_cons_succ,List.setIfInBounds_toArray,List.set_cons_zero,List.set_cons_succ]
       refine wpAnyH_ready (rs:=[27]) (by kernel_rfl) (by simp) ?_
       refine AllReadyH.cons (o:=_) rfl (fun K1 hK=>?_) AllReadyH.nil
       clear hHeld
       go_simp
       refine(SB.out.left op HF.out.symm).mono ?_
       rintro e we ⟨rfl,hb⟩
       have SC:=Lib.hid (SB.out.step hb)
       have KC:=Lib.hid (KB.out.trans (KeepP.below hb))
       clear hb
       refine hK.out _ _ (by exact CL.out we KC.out) (fun hHeld=>?_)
       clear hK K1
       try simp only[Act.put,List.getElem_toArray,List.getElem_cons_zero,List.getElem_cons_succ,List.setIfInBounds_toArray,List.set_cons_zero,List.set_cons_succ]
       refine wpAnyH_take (i:=29) (oi:=_) (v:= .bool false) rfl (by kernel_rfl) (by kernel_rfl) (by kernel_rfl) (fun _ _ _ h=>h) (Or.inl ⟨by rfl,?_⟩) (by assumption) ?_
       ·intro w hSw
        try dsimp only at hSw
        go_split_ands
        go_simp
       try simp only[Act.put,List.getElem_toArray,List.getElem_cons_zero,List.getElem_cons_succ,List.setIfInBounds_toArray,List.set_cons_zero,List.set_cons_succ]
       refine wpAnyH_take (i:=30) (oi:=_) (v:= .bool false) rfl (by kernel_rfl) (by kernel_rfl) (by kernel_rfl) (fun _ _ _ h=>h) (Or.inl ⟨by rfl,?_⟩) (by assumption) ?_
       ·intro w hSw
        try dsimp only at hSw
        go_split_ands
        go_simp
       try simp only[Act.put,List.getElem_toArray,List.getElem_cons_zero,List.getElem_cons_succ,List.setIfInBounds_toArray,List.set_cons_zero,List.set_cons_succ]
       refine wpAnyH_take (i:=31) (oi:=_) (v:= .bool false) rfl (by kernel_rfl) (by kernel_rfl) (by kernel_rfl) (fun _ _ _ h=>h) (Or.inl ⟨by rfl,?_⟩) (by assumption) ?_
       ·intro w hSw
        try dsimp only at hSw
        go_split_ands
        go_simp
       try simp only[Act.put,List.getElem_toArray,List.getElem_cons_zero,List.getElem_cons_succ,List.setIfInBounds_toArray,List.set_cons_zero,List.set_cons_succ]
       refine wpAnyH_take (i:=32) (oi:=_) (v:= .pointer (some ⟨J.I.X.pb,0,none⟩)) rfl (by kernel_rfl) (by kernel_rfl) (by kernel_rfl) (fun _ _ _ h=>h) (Or.inl ⟨by rfl,?_⟩) (by assumption) ?_
       ·intro w hSw
        try dsimp only at hSw
        go_split_ands
        go_simp
       try simp only[Act.put,List.getElem_toArray,List.getElem_cons_zero,List.getElem_cons_succ,List.setIfInBounds_toArray,List.set_cons_zero,List.set_cons_succ]
       refine wpAnyH_take (i:=34) (oi:=_) (v:= .int .i64 (c:Int)) rfl (by kernel_rfl) (by kernel_rfl) (by kernel_rfl) (fun _ _ _ h=>h) (Or.inl ⟨by rfl,?_⟩) (by assumption) ?_
       ·intro w hSw
        try dsimp only at hSw
        go_split_ands
        go_simp
       try simp only[Act.put,List.getElem_toArray,List.getElem_cons_zero,List.getElem_cons_succ,List.setIfInBounds_toArray,List.set_cons_zero,List.set_cons_succ]
       refine wpAnyH_ready (rs:=[33]) (by kernel_rfl) (by simp) ?_
       refine AllReadyH.cons (o:=_) rfl (fun K1 hK=>?_) AllReadyH.nil
       clear hHeld
       go_simp
       refine(SC.out.free).mono ?_
       rintro e wd ⟨rfl,hb⟩
       have SD:=Lib.hid (SC.out.step hb)
       have KD:=Lib.hid (KC.out.trans (KeepP.below hb))
       clear hb
       refine hK.out _ _ (by exact CL.out wd KD.out) (fun hHeld=>?_)
       clear hK K1
       try simp only[Act.put,List.getElem_toArray,List.getElem_cons_zero,List.getElem_cons_succ,List.setIfInBounds_toArray,List.set_cons_zero,List.set_cons_succ]
       refine wpAnyH_take (i:=35) (oi:=_) (v:= .bool false) rfl (by kernel_rfl) (by kernel_rfl) (by kernel_rfl) (fun _ _ _ h=>h) (Or.inl ⟨by rfl,?_⟩) (by assumption) ?_
       ·intro w hSw
        try dsimp only at hSw
        go_split_ands
        go_simp
       try simp only[Act.put,List.getElem_toArray,List.getElem_cons_zero,List.getElem_cons_succ,List.setIfInBounds_toArray,List.set_cons_zero,List.set_cons_succ]
       refine wpAnyH_take (i:=36) (oi:=_) (v:= .bool false) rfl (by kernel_rfl) (by kernel_rfl) (by kernel_rfl) (fun _ _ _ h=>h) (Or.inl ⟨by rfl,?_⟩) (by assumption) ?_
       ·intro w hSw
        try dsimp only at hSw
        go_split_ands
        go_simp
       try simp only[Act.put,List.getElem_toArray,List.getElem_cons_zero,List.getElem_cons_succ,List.setIfInBounds_toArray,List.set_cons_zero,List.set_cons_succ]
       refine wpAnyH_done (by kernel_rfl) ?_ _
       refine NoPanic.normal ?_
       have c7':=(OC.out wd (K20.out.trans KD.out)).2.2
       clear hHeld
       go_wp2_with fail
       refine(END.out wd SD.out.below).mono ?_
       rintro e wz ⟨rfl,hz⟩
       have BZ:=Lib.hid hz
       clear hz
       go_wp2_with fail
       go_ret
       exact⟨rfl,BZ.out⟩
   ·have he:(oa.tmod 2==0)=false:=by simpa using he
    rcases XY.out with⟨hy,hs⟩|⟨hy,hs⟩
    ·as_aux_lemma=>
      have S9:=Lib.hid hs
      have n2:(y !=0)=true:=by simpa using hy
      clear hs hy
      go_wp2_with fail
      refine(END.out w9 S9.out.below).mono ?_
      rintro e wz ⟨rfl,hz⟩
      have BZ:=Lib.hid hz
      clear hz
      go_wp2_with fail
      go_ret
      exact⟨rfl,BZ.out⟩
    ·as_aux_lemma=>
      subst hy
      have S9:=Lib.hid hs
      clear hs c1 c2
      go_upto_region 19 with fail
      clear c7
      have QN:=Lib.hid S9.out.quota
      obtain⟨lk,hlk⟩:∃lk,lk=lf-on:=⟨_,rfl⟩
      have ew:IntKind.i64.wrap (lf-on)=lk:=by rw[hlk,IntKind.wrap_i64];have:=LB.out;have:=QN.out;omega
      have CL:Hid (∀V,KeepP w9 V→V.cell? ⟨W.heap.size+1,1,none⟩=some (.int .i64 op)∧V.cell? ⟨W.heap.size+1,2,none⟩=some (.int .i64 on)):=Lib.hid fun V hk=>⟨(OC.out V (K9.out.trans hk)).1,(OC.out V (K9.out.trans hk)).2.1⟩
      have LL:=Lib.hid (fun V (hb:Below w9.heap.size w9 V)=>(S9.out.step hb).left (d:=lk) (by rw[hlk,HF.out]))
      have KL:=Lib.hid (fun V (hb:Below w9.heap.size w9 V)=>(S9.out.step hb).kill (a:=1) (by decide))
      have e1:(lk !=lk)=false:=by simp
      have e2:(lf !=lf)=false:=by simp
      have e3:((c:Int) !=(c:Int))=false:=by simp
      clear hlk
      go_wp2_with fail
      refine wp_region_noPanic ?_
      refine wp_region_held_drew (S:=(fun V=>V.cell? ⟨W.heap.size+1,1,none⟩=some (.int .i64 op)∧V.cell? ⟨W.heap.size+1,2,none⟩=some (.int .i64 on))) (by kernel_rfl) (by exact CL.out _ (KeepP.below (Below.refl _ _).drew)) (fun hHeld=>?_)
      refine wpAnyH_take (i:=0) (oi:=_) (v:= .pointer (some ⟨J.ps,0,none⟩)) rfl (by kernel_rfl) (by kernel_rfl) (by kernel_rfl) (fun _ _ _ h=>h) (Or.inl ⟨by rfl,?_⟩) (by assumption) ?_
      ·intro w hSw
       try dsimp only at hSw
       go_split_ands
       go_simp
      try simp only[Act.put,List.getElem_toArray,List.getElem_cons_zero,List.setIfInBounds_toArray,List.set_cons_zero,List.set_cons_succ]
      refine wpAnyH_take (i:=1) (oi:=_) (v:= .pointer (some ⟨W.heap.size+1,1,none⟩)) rfl (by kernel_rfl) (by kernel_rfl) (by kernel_rfl) (fun _ _ _ h=>h) (Or.inl ⟨by rfl,?_⟩) (by assumption) ?_
      ·intro w hSw
       try dsimp only at hSw
       go_split_ands
       go_simp
      try simp only[Act.put,List.getElem_toArray,List.getElem_cons_zero,List.getElem_cons_succ,List.setIfInBounds_toArray,List.set_cons_zero,List.set_cons_succ]
      refine wpAnyH_take (i:=2) (oi:=_) (v:= .int .i64 op) rfl (by kernel_rfl) (by kernel_rfl) (by kernel_rfl) (fun _ _ _ h=>h) (Or.inl ⟨by rfl,?_⟩) (by assumption) ?_
      ·intro w hSw
       try dsimp only at hSw
       go_split_ands
       go_simp
      try simp only[Act.put,List.getElem_toArray,List.getElem_cons_zero,List.getElem_cons_succ,List.setIfInBounds_toArray,List.set_cons_zero,List.set_cons_succ]
      refine wpAnyH_take (i:=4) (oi:=_) (v:= .int .i64 lf) rfl (by kernel_rfl) (by kernel_rfl) (by kernel_rfl) (fun _ _ _ h=>h) (Or.inl ⟨by rfl,?_⟩) (by assumption) ?_
      ·intro w hSw
       try dsimp only at hSw
       go_split_ands
       go_simp
      try simp only[Act.put,List.getElem_toArray,List.getElem_cons_zero,List.getElem_cons_succ,List.setIfInBounds_toArray,List.set_cons_zero,List.set_cons_succ]
      refine wpAnyH_take (i:=5) (oi:=_) (v:= .pointer (some ⟨W.heap.size+1,2,none⟩)) rfl (by kernel_rfl) (by kernel_rfl) (by kernel_rfl) (fun _ _ _ h=>h) (Or.inl ⟨by rfl,?_⟩) (by assumption) ?_
      ·intro w hSw
       try dsimp only at hSw
       go_split_ands
       go_simp
      try simp only[Act.put,List.getElem_toArray,List.getElem_cons_zero,List.getElem_cons_succ,List.setIfInBounds_toArray,List.set_cons_zero,List.set_cons_succ]
      refine wpAnyH_take (i:=6) (oi:=_) (v:= .int .i64 on) rfl (by kernel_rfl) (by kernel_rfl) (by kernel_rfl) (fun _ _ _ h=>h) (Or.inl ⟨by rfl,?_⟩) (by assumption) ?_
      ·intro w hSw
       try dsimp only at hSw
       go_split_ands
       go_simp
      try simp only[Act.put,List.getElem_toArray,List.getElem_cons_zero,List.getElem_cons_succ,List.setIfInBounds_toArray,List.set_cons_zero,List.set_cons_succ]
      refine wpAnyH_take (i:=7) (oi:=_) (v:= .int .i64 lk) rfl (by kernel_rfl) (by kernel_rfl) (by kernel_rfl) (fun _ _ _ h=>h) (Or.inl ⟨by rfl,?_⟩) (by assumption) ?_
      ·intro w hSw
       try dsimp only at hSw
       go_split_ands
       go_simp
      try simp only[Act.put,List.getElem_toArray,List.getElem_cons_zero,List.getElem_cons_succ,List.setIfInBounds_toArray,List.set_cons_zero,List.set_cons_succ]
      refine wpAnyH_ready (rs:=[3]) (by kernel_rfl) (by simp) ?_
      refine AllReadyH.cons (o:=_) rfl (fun K1 hK=>?_) AllReadyH.nil
      clear hHeld
      go_simp
      refine(LL.out _ (Below.refl _ _).drew).mono ?_
      rintro e wa ⟨rfl,hb⟩
      have BA:Hid (Below w9.heap.size w9 wa):=Lib.hid ((Below.refl _ _).drew.trans hb)
      have KA:=Lib.hid (KeepP.below BA.out)
      clear hb
      refine hK.out _ _ (by exact CL.out wa KA.out) (fun hHeld=>?_)
      clear hK K1
      try simp only[Act.put,List.getElem_toArray,List.getElem_cons_zero,List.getElem_cons_succ,List.setIfInBounds_toArray,List.set_cons_zero,List.set_cons_succ]
      refine wpAnyH_take (i:=8) (oi:=_) (v:= .bool false) rfl (by kernel_rfl) (by kernel_rfl) (by kernel_rfl) (fun _ _ _ h=>h) (Or.inl ⟨by rfl,?_⟩) (by assumption) ?_
      ·intro w hSw
       try dsimp only at hSw
       go_split_ands
       go_simp
      try simp only[Act.put,List.getElem_toArray,List.getElem_cons_zero,List.getElem_cons_succ,List.setIfInBounds_toArray,List.set_cons_zero,List.set_cons_succ]
      refine wpAnyH_take (i:=9) (oi:=_) (v:= .bool false) rfl (by kernel_rfl) (by kernel_rfl) (by kernel_rfl) (fun _ _ _ h=>h) (Or.inl ⟨by rfl,?_⟩) (by assumption) ?_
      ·intro w hSw
       try dsimp only at hSw
       go_split_ands
       go_simp
      try simp only[Act.put,List.getElem_toArray,List.getElem_cons_zero,List.getElem_cons_succ,List.setIfInBounds_toArray,List.set_cons_zero,List.set_cons_succ]
      refine wpAnyH_take (i:=10) (oi:=_) (v:=undef) rfl (by kernel_rfl) (by kernel_rfl) (by kernel_rfl) (fun _ _ _ h=>h) (Or.inr ⟨by rfl,rfl⟩) (by assumption) ?_
      try simp only[Act.put,List.getElem_toArray,List.getElem_cons_zero,List.getElem_cons_succ,List.setIfInBounds_toArray,List.set_cons_zero,List.set_cons_succ]
      refine wpAnyH_take (i:=11) (oi:=_) (v:=undef) rfl (by kernel_rfl) (by kernel_rfl) (by kernel_rfl) (fun _ _ _ h=>h) (Or.inr ⟨by rfl,rfl⟩) (by assumption) ?_
      try simp only[Act.put,List.getElem_toArray,List.getElem_cons_zero,List.getElem_cons_succ,List.setIfInBounds_toArray,List.set_cons_zero,List.set_cons_succ]
      refine wpAnyH_take (i:=12) (oi:=_) (v:=undef) rfl (by kernel_rfl) (by kernel_rfl) (by kernel_rfl) (fun _ _ _ h=>h) (Or.inr ⟨by rfl,rfl⟩) (by assumption) ?_
      try simp only[Act.put,List.getElem_toArray,List.getElem_cons_zero,List.getElem_cons_succ,List.setIfInBounds_toArray,List.set_cons_zero,List.set_cons_succ]
      refine wpAnyH_take (i:=13) (oi:=_) (v:=undef) rfl (by kernel_rfl) (by kernel_rfl) (by kernel_rfl) (fun _ _ _ h=>h) (Or.inr ⟨by rfl,rfl⟩) (by assumption) ?_
      try simp only[Act.put,List.getElem_toArray,List.getElem_cons_zero,List.getElem_cons_succ,List.setIfInBounds_toArray,List.set_cons_zero,List.set_cons_succ]
      refine wpAnyH_take (i:=14) (oi:=_) (v:= .bool false) rfl (by kernel_rfl) (by kernel_rfl) (by kernel_rfl) (fun _ _ _ h=>h) (Or.inl ⟨by rfl,?_⟩) (by assumption) ?_
      ·intro w hSw
       try dsimp only at hSw
       go_split_ands
       go_simp
      try simp only[Act.put,List.getElem_toArray,List.getElem_cons_zero,List.getElem_cons_succ,List.setIfInBounds_toArray,List.set_cons_zero,List.set_cons_succ]
      refine wpAnyH_take (i:=15) (oi:=_) (v:= .bool false) rfl (by kernel_rfl) (by kernel_rfl) (by kernel_rfl) (fun _ _ _ h=>h) (Or.inl ⟨by rfl,?_⟩) (by assumption) ?_
      ·intro w hSw
       try dsimp only at hSw
       go_split_ands
       go_simp
      try simp only[Act.put,List.getElem_toArray,List.getElem_cons_zero,List.getElem_cons_succ,List.setIfInBounds_toArray,List.set_cons_zero,List.set_cons_succ]
      refine wpAnyH_take (i:=16) (oi:=_) (v:= .pointer (some ⟨J.ps,0,none⟩)) rfl (by kernel_rfl) (by kernel_rfl) (by kernel_rfl) (fun _ _ _ h=>h) (Or.inl ⟨by rfl,?_⟩) (by assumption) ?_
      ·intro w hSw
       try dsimp only at hSw
       go_split_ands
       go_simp
      try simp only[Act.put,List.getElem_toArray,List.getElem_cons_zero,List.getElem_cons_succ,List.setIfInBounds_toArray,List.set_cons_zero,List.set_cons_succ]
      refine wpAnyH_take (i:=17) (oi:=_) (v:= .pointer (some ⟨W.heap.size+1,1,none⟩)) rfl (by kernel_rfl) (by kernel_rfl) (by kernel_rfl) (fun _ _ _ h=>h) (Or.inl ⟨by rfl,?_⟩) (by assumption) ?_
      ·intro w hSw
       try dsimp only at hSw
       go_split_ands
       go_simp
      try simp only[Act.put,List.getElem_toArray,List.getElem_cons_zero,List.getElem_cons_succ,List.setIfInBounds_toArray,List.set_cons_zero,List.set_cons_succ]
      refine wpAnyH_take (i:=18) (oi:=_) (v:= .int .i64 op) rfl (by kernel_rfl) (by kernel_rfl) (by kernel_rfl) (fun _ _ _ h=>h) (Or.inl ⟨by rfl,?_⟩) (by assumption) ?_
      ·intro w hSw
       try dsimp only at hSw
       go_split_ands
       go_simp
      try simp only[Act.put,List.getElem_toArray,List.getElem_cons_zero,List.getElem_cons_succ,List.setIfInBounds_toArray,List.set_cons_zero,List.set_cons_succ]
      refine wpAnyH_take (i:=19) (oi:=_) (v:= .int .i64 xc) rfl (by kernel_rfl) (by kernel_rfl) (by kernel_rfl) (fun _ _ _ h=>h) (Or.inl ⟨by rfl,?_⟩) (by assumption) ?_
      ·intro w hSw
       try dsimp only at hSw
       go_split_ands
       go_simp
      try simp only[Act.put,List.getElem_toArray,List.getElem_cons_zero,List.getElem_cons_succ,List.setIfInBounds_toArray,List.set_cons_zero,List.set_cons_succ]
      refine wpAnyH_ready (rs:=[20]) (by kernel_rfl) (by simp) ?_
      refine AllReadyH.cons (o:=_) rfl (fun K1 hK=>?_) AllReadyH.nil
      clear hHeld
      go_simp
      refine(KL.out wa BA.out).mono ?_
      rintro e wb ⟨rfl,hk,hs⟩
      have SB:=Lib.hid hs
      have KB:=Lib.hid (KA.out.trans hk)
      clear hk hs
      refine hK.out _ _ (by exact CL.out wb KB.out) (fun hHeld=>?_)
      clear hK K1
      try simp only[Act.put,List.getElem_toArray,List.getElem_cons_zero,List.getElem_cons_succ,List.setIfInBounds_toArray,List.set_cons_zero,List.set_cons_succ]
      refine wpAnyH_take (i:=21) (oi:=_) (v:= .bool false) rfl (by kernel_rfl) (by kernel_rfl) (by kernel_rfl) (fun _ _ _ h=>h) (Or.inl ⟨by rfl,?_⟩) (by assumption) ?_
      ·intro w hSw
       try dsimp only at hSw
       go_split_ands
       go_simp
      try simp only[Act.put,List.getElem_toArray,List.getElem_cons_zero,List.getElem_cons_succ,List.setIfInBounds_toArray,List.set_cons_zero,List.set_cons_succ]
      refine wpAnyH_take (i:=22) (oi:=_) (v:= .bool false) rfl (by kernel_rfl) (by kernel_rfl) (by kernel_rfl) (fun _ _ _ h=>h) (Or.inl ⟨by rfl,?_⟩) (by assumption) ?_
      ·intro w hSw
       try dsimp only at hSw
       go_split_ands
       go_simp
      try simp only[Act.put,List.getElem_toArray,List.getElem_cons_zero,List.getElem_cons_succ,List.setIfInBounds_toArray,List.set_cons_zero,List.set_cons_succ]
      refine wpAnyH_take (i:=23) (oi:=_) (v:= .bool false) rfl (by kernel_rfl) (by kernel_rfl) (by kernel_rfl) (fun _ _ _ h=>h) (Or.inl ⟨by rfl,?_⟩) (by assumption) ?_
      ·intro w hSw
       try dsimp only at hSw
       go_split_ands
       go_simp
      try simp only[Act.put,List.getElem_toArray,List.getElem_cons_zero,List.getElem_cons_succ,List.setIfInBounds_toArray,List.set_cons_zero,List.set_cons_succ]
      refine wpAnyH_take (i:=24) (oi:=_) (v:= .pointer (some ⟨J.ps,0,none⟩)) rfl (by kernel_rfl) (by kernel_rfl) (by kernel_rfl) (fun _ _ _ h=>h) (Or.inl ⟨by rfl,?_⟩) (by assumption) ?_
      ·intro w hSw
       try dsimp only at hSw
       go_split_ands
       go_simp
      try simp only[Act.put,List.getElem_toArray,List.getElem_cons_zero,List.getElem_cons_succ,List.setIfInBounds_toArray,List.set_cons_zero,List.set_cons_succ]
      refine wpAnyH_take (i:=25) (oi:=_) (v:= .pointer (some ⟨W.heap.size+1,1,none⟩)) rfl (by kernel_rfl) (by kernel_rfl) (by kernel_rfl) (fun _ _ _ h=>h) (Or.inl ⟨by rfl,?_⟩) (by assumption) ?_
      ·intro w hSw
       try dsimp only at hSw
       go_split_ands
       go_simp
      try simp only[Act.put,List.getElem_toArray,List.getElem_cons_zero,List.getElem_cons_succ,List.setIfInBounds_toArray,List.set_cons_zero,List.set_cons_succ]
      refine wpAnyH_take (i:=26) (oi:=_) (v:= .int .i64 op) rfl (by kernel_rfl) (by kernel_rfl) (by kernel_rfl) (fun _ _ _ h=>h) (Or.inl ⟨by rfl,?_⟩) (by assumption) ?_
      ·intro w hSw
       try dsimp only at hSw
       go_split_ands
       go_simp
      try simp only[Act.put,List.getElem_toArray,List.getElem_cons_zero,List.getElem_cons_succ,List.setIfInBounds_toArray,List.set_cons_zero,List.set_cons_succ]
      refine wpAnyH_take (i:=28) (oi:=_) (v:= .int .i64 lf) rfl (by kernel_rfl) (by kernel_rfl) (by kernel_rfl) (fun _ _ _ h=>h) (Or.inl ⟨by rfl,?_⟩) (by assumption) ?_
      ·intro w hSw
       try dsimp only at hSw
       go_split_ands
       go_simp
      try simp only[Act.put,List.getElem_toArray,List.getElem_cons_zero,List.getElem_cons_succ,List.setIfInBounds_toArray,List.set_cons_zero,List.set_cons_succ]
      refine wpAnyH_ready (rs:=[27]) (by kernel_rfl) (by simp) ?_
      refine AllReadyH.cons (o:=_) rfl (fun K1 hK=>?_) AllReadyH.nil
      clear hHeld
      go_simp
      refine(SB.out.left op HF.out.symm).mono ?_
      rintro e we ⟨rfl,hb⟩
      have SC:=Lib.hid (SB.out.step hb)
      have KC:=Lib.hid (KB.out.trans (KeepP.below hb))
      clear hb
      refine hK.out _ _ (by exact CL.out we KC.out) (fun hHeld=>?_)
      clear hK K1
      try simp only[Act.put,List.getElem_toArray,List.getElem_cons_zero,List.getElem_cons_succ,List.setIfInBounds_toArray,List.set_cons_zero,List.set_cons_succ]
      refine wpAnyH_take (i:=29) (oi:=_) (v:= .bool false) rfl (by kernel_rfl) (by kernel_rfl) (by kernel_rfl) (fun _ _ _ h=>h) (Or.inl ⟨by rfl,?_⟩) (by assumption) ?_
      ·intro w hSw
       try dsimp only at hSw
       go_split_ands
       go_simp
      try simp only[Act.put,List.getElem_toArray,List.getElem_cons_zero,List.getElem_cons_succ,List.setIfInBounds_toArray,List.set_cons_zero,List.set_cons_succ]
      refine wpAnyH_take (i:=30) (oi:=_) (v:= .bool false) rfl (by kernel_rfl) (by kernel_rfl) (by kernel_rfl) (fun _ _ _ h=>h) (Or.inl ⟨by rfl,?_⟩) (by assumption) ?_
      ·intro w hSw
       try dsimp only at hSw
       go_split_ands
       go_simp
      try simp only[Act.put,List.getElem_toArray,List.getElem_cons_zero,List.getElem_cons_succ,List.setIfInBounds_toArray,List.set_cons_zero,List.set_cons_succ]
      refine wpAnyH_take (i:=31) (oi:=_) (v:= .bool false) rfl (by kernel_rfl) (by kernel_rfl) (by kernel_rfl) (fun _ _ _ h=>h) (Or.inl ⟨by rfl,?_⟩) (by assumption) ?_
      ·intro w hSw
       try dsimp only at hSw
       go_split_ands
       go_simp
      try simp only[Act.put,List.getElem_toArray,List.getElem_cons_zero,List.getElem_cons_succ,List.setIfInBounds_toArray,List.set_cons_zero,List.set_cons_succ]
      refine wpAnyH_take (i:=32) (oi:=_) (v:= .pointer (some ⟨J.I.X.pb,0,none⟩)) rfl (by kernel_rfl) (by kernel_rfl) (by kernel_rfl) (fun _ _ _ h=>h) (Or.inl ⟨by rfl,?_⟩) (by assumption) ?_
      ·intro w hSw
       try dsimp only at hSw
       go_split_ands
       go_simp
      try simp only[Act.put,List.getElem_toArray,List.getElem_cons_zero,List.getElem_cons_succ,List.setIfInBounds_toArray,List.set_cons_zero,List.set_cons_succ]
      refine wpAnyH_take (i:=34) (oi:=_) (v:= .int .i64 (c:Int)) rfl (by kernel_rfl) (by kernel_rfl) (by kernel_rfl) (fun _ _ _ h=>h) (Or.inl ⟨by rfl,?_⟩) (by assumption) ?_
      ·intro w hSw
       try dsimp only at hSw
       go_split_ands
       go_simp
      try simp only[Act.put,List.getElem_toArray,List.getElem_cons_zero,List.getElem_cons_succ,List.setIfInBounds_toArray,List.set_cons_zero,List.set_cons_succ]
      refine wpAnyH_ready (rs:=[33]) (by kernel_rfl) (by simp) ?_
      refine AllReadyH.cons (o:=_) rfl (fun K1 hK=>?_) AllReadyH.nil
      clear hHeld
      go_simp
      refine(SC.out.free).mono ?_
      rintro e wd ⟨rfl,hb⟩
      have SD:=Lib.hid (SC.out.step hb)
      have KD:=Lib.hid (KC.out.trans (KeepP.below hb))
      clear hb
      refine hK.out _ _ (by exact CL.out wd KD.out) (fun hHeld=>?_)
      clear hK K1
      try simp only[Act.put,List.getElem_toArray,List.getElem_cons_zero,List.getElem_cons_succ,List.setIfInBounds_toArray,List.set_cons_zero,List.set_cons_succ]
      refine wpAnyH_take (i:=35) (oi:=_) (v:= .bool false) rfl (by kernel_rfl) (by kernel_rfl) (by kernel_rfl) (fun _ _ _ h=>h) (Or.inl ⟨by rfl,?_⟩) (by assumption) ?_
      ·intro w hSw
       try dsimp only at hSw
       go_split_ands
       go_simp
      try simp only[Act.put,List.getElem_toArray,List.getElem_cons_zero,List.getElem_cons_succ,List.setIfInBounds_toArray,List.set_cons_zero,List.set_cons_succ]
      refine wpAnyH_take (i:=36) (oi:=_) (v:= .bool false) rfl (by kernel_rfl) (by kernel_rfl) (by kernel_rfl) (fun _ _ _ h=>h) (Or.inl ⟨by rfl,?_⟩) (by assumption) ?_
      ·intro w hSw
       try dsimp only at hSw
       go_split_ands
       go_simp
      try simp only[Act.put,List.getElem_toArray,List.getElem_cons_zero,List.getElem_cons_succ,List.setIfInBounds_toArray,List.set_cons_zero,List.set_cons_succ]
      refine wpAnyH_done (by kernel_rfl) ?_ _
      refine NoPanic.normal ?_
      have c7':=(OC.out wd (K9.out.trans KD.out)).2.2
      clear hHeld
      go_wp2_with fail
      refine SD.out.all.mono ?_
      rintro e wy ⟨⟨ay,cy,rfl⟩,hb⟩
      have SY:=Lib.hid (SD.out.step hb)
      clear hb
      have j1: -9223372036854775808≤(tl:Int)+1:=by omega
      have j2:(tl:Int)+1≤9223372036854775807:=by omega
      have j3:(((tl+1:Nat):Int)==(tl:Int)+1)=true:=by simp
      go_wp2_with fail
      refine(END.out wy SY.out.below).mono ?_
      rintro e wz ⟨rfl,hz⟩
      have BZ:=Lib.hid hz
      clear hz
      go_wp2_with fail
      go_ret
      exact⟨rfl,BZ.out⟩
theorem DJ(q sl:Int)(v:Value)(S:List Op18)(o:Op18)(W:World)(_:I64 q∧I64 sl)(hO:ArgOps18 W v S)(ho:o.M9)(hL:LaidN W):Calls Tryz.prog 6 #[.agg #[.int .i64 q, .int .i64 sl],v, .agg o.v] W fun e w'=>e= .returned (.bool true)∧Below W.heap.size W w':=by
 by_cases h:fineB q sl=true∧S.length≤40
 ·have h5:=fineB_iff.1 h.1
  obtain⟨n,rfl⟩:∃n:Nat,q=(n:Int):=⟨q.toNat,by omega⟩
  exact Zi n sl v S o W (by omega) (by omega) h5.2 h.2 hO ho hL
 ·obtain⟨a,cp,rfl,_⟩:=hO
  refine Ww q sl a _ cp o W ?_ hL
  cases hf:fineB q sl with
  |false=>exact Or.inl rfl
  |true=>
   have h9:¬S.length≤40:=fun h2=>h ⟨hf,h2⟩
   exact Or.inr ⟨rfl,by omega⟩
end Go.Proofs.YtammlljefhakmaaGreatDoor
