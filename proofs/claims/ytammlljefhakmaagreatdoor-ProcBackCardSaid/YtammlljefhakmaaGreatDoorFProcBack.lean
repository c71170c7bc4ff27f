/- The law ProcBack returns true for every input, and its arguments read behind the call as they read before. Conditions: none beyond the row's own: the masks and the library's two tables start as the text lays them, which the card ties. -/
import Derived.Test.YtammlljefhakmaaGreatDoorIP
import Derived.BigQuiet
import Derived.Test.YtammlljefhakmaaGreatDoorOP
import Derived.Test.YtammlljefhakmaaGreatDoorTie
import Derived.Test.YtammlljefhakmaaGreatDoorCards
import Derived.SevenTiedAt
namespace Go.Proofs.YtammlljefhakmaaGreatDoor
open Go.RowKit Go.Maps
set_option maxRecDepth 100000
theorem arsV_atJ:∀(L:List Ar) (i:Nat),i<L.length→(arsV L)[i*3]? =some (.int .i64 (L.getD i default).1)∧(arsV L)[i*3+1]? =some (.int .i64 (L.getD i default).2.1)
 |x::r,0,_=>by simp[arsV]
 |x::r,i+1,h=>by
  have ih:=arsV_atJ r i (by simpa using h)
  have e:arsV (x::r)=[.int .i64 x.1, .int .i64 x.2.1, .bool x.2.2]++arsV r:=by simp[arsV]
  rw[e,show(i+1)*3=i*3+3 by omega]
  simpa[List.getElem?_append_right]using ih
theorem arRowJ{w:World}{base:Nat}{a:Option Addr}{cp:Nat}{L:List Ar}(h:w.ownsRow base 23 3 (.slice a L.length cp) L.length (arsV L)):L=[]∨∃g cs,a=some ⟨g,0,none⟩∧w.heap[g]? =some (.cells cs 23 (0,0))∧∀V:World,V.heap[g]? =some (.cells cs 23 (0,0))→∀i,i<L.length→V.cell? ⟨g,i*3,none⟩=some (.int .i64 (L.getD i default).1)∧V.cell? ⟨g,i*3+1,none⟩=some (.int .i64 (L.getD i default).2.1):=by
 rcases h.2 with⟨_,h0⟩|⟨g,cap,cur,he,hb,hgg,hn,hm,hs,ht⟩
 ·exact Or.inl (List.eq_nil_of_length_eq_zero h0)
 ·injection he with he _ hc
  subst he
  refine Or.inr ⟨g,cur,rfl,hgg,fun V hV i hi=>?_⟩
  have h':V.ownsRow base 23 3 (.slice (some ⟨g,0,none⟩) L.length cp) L.length (arsV L):=⟨h.1,Or.inr ⟨g,cap,cur,by rw[hc],hb,hV,hn,hm,hs,ht⟩⟩
  obtain⟨a0,a1⟩:=arsV_atJ L i hi
  have b0:=h'.cells (g:=g) rfl _ _ a0
  have b1:=h'.cells (g:=g) rfl _ _ a1
  rw[Addr.add_mid,Nat.zero_add]at b0 b1
  exact⟨b0,b1⟩
set_option maxHeartbeats 8000000 in
theorem back18_in(q:Nat)(sl:Int)(v:Value)(S:List Op18)(W:World)(h1:1≤q)(h60:q≤60)(hs:1≤sl∧sl≤8)(hlen:S.length≤40)(hO:ArgOps18 W v S)(hL:LaidN W):Calls Tryz.prog 5 #[.agg #[.int .i64 (q:Int), .int .i64 sl],v] W fun e w'=>e= .returned (.bool true)∧Below W.heap.size W w':=by
 have B1:=Lib.hid (Below.alloc (Below.refl W.heap.size W) (Nat.le_refl _) (pcO (q:Int) sl))
 have X1:=Lib.hid (heap_alloc_new W (pcO (q:Int) sl))
 have AW:=Lib.hid (fun V (hb:Below W.heap.size W V)=>hL.awake18 V hb)
 have FN:=Lib.hid (fun V=>fine18_ok (q:Int) sl V (fineB_iff.2 ⟨by omega,hs⟩))
 have MD:=Lib.hid (fun V (hb:Below W.heap.size W V)=>made18_ok q sl V h1 h60 hs (hL.lq.below hb) (hL.lw.below hb))
 obtain⟨a,cp,rfl,hwd,hO⟩:=hO
 have WD:=Lib.hid hwd
 have HO:=Lib.hid hO
 obtain⟨n,hn⟩:∃n,n=S.length:=⟨_,rfl⟩
 have HN:=Lib.hid hn
 have n40:n≤40:=by omega
 have d3:decide ((40:Int)<(n:Int))=false:=decide_eq_false (by omega)
 have ew:IntKind.i64.wrap ((q:Int)-1)=(q:Int)-1:=by rw[IntKind.wrap_i64];omega
 have iw0: -9223372036854775808≤(q:Int)-1:=by omega
 have iw1:(q:Int)-1≤9223372036854775807:=by omega
 rw[←hn]
 clear hwd hO hlen hn hL h1 h60 hs
 go_enter Tryz.func5,Tryz.ntmps5
 go_wp2_with fail
 refine(FN.out _).mono ?_
 rintro e w2 ⟨rfl,hb⟩
 have B2:=Lib.hid (B1.out.trans (hb.mono B1.out.size))
 have X2:=Lib.hid (below_block hb X1.out)
 have q0:w2.cell? ⟨W.heap.size,0,none⟩=some (.int .i64 (q:Int)):=by rw[cell_of_row w2 _ 0 _ _ _ X2.out];rfl
 have q1:w2.cell? ⟨W.heap.size,1,none⟩=some (.int .i64 sl):=by rw[cell_of_row w2 _ 1 _ _ _ X2.out];rfl
 clear hb
 go_wp2_with fail
 refine(MD.out w2 B2.out).mono ?_
 rintro e w3 ⟨J,s,rfl,_,_,hp⟩
 have P3:=Lib.hid hp.any
 have K3:=Lib.hid (KeepP.below hp.below)
 clear hp q0 q1
 go_wp2_with fail
 go_loopw [8] (fun s wr=>∃j:Nat,s= .int .i64 (j:Int)∧j≤n∧AnyP w2 wr J q∧KeepP w2 wr) (fun s _=>(n-(intOf s).toNat))
 case atStart=>exact⟨0,rfl,Nat.zero_le _,P3.out,K3.out⟩
 case round=>
  obtain⟨j,rfl,hj,hp,hkp⟩:=hrel
  have P4:=Lib.hid hp
  have K4:=Lib.hid hkp
  clear hp hkp
  by_cases hlt:j<n
  ·obtain⟨b,o,rfl,hb1,hb2⟩:=HO.out.resolve_left (by intro e;have:=HN.out;rw[e]at this;simp at this;omega)
   have hmem:S.getD j default∈S:=by rw[List.getD_eq_getElem?_getD,List.getElem?_eq_getElem (by have:=HN.out;omega)];simp
   have DO:=Lib.hid (P4.out.does (S.getD j default) (WD.out _ hmem))
   obtain⟨c0,c1,c2,c3,c4,c5,c6,c7⟩:=(hb2 j (by have:=HN.out;omega)).below (B2.out.trans (P4.out.below.mono B2.out.size)) hb1
   generalize S.getD j default=x at DO c0 c1 c2 c3 c4 c5 c6 c7
   obtain⟨x0,x1,x2,x3,x4,x5,x6,x7⟩:=x
   simp only at c0 c1 c2 c3 c4 c5 c6 c7
   clear hb1 hb2 hmem
   go_wp2_with fail
   refine DO.out.mono ?_
   rintro e w5 ⟨rfl,hk5,hp⟩
   have P5:=Lib.hid hp
   have K5:=Lib.hid (K4.out.trans hk5)
   clear hk5 hp c0 c1 c2 c3 c4 c5 c6 c7
   go_wp2_with fail
   go_roundw
   case rel=>exact⟨j+1,by go_num,by omega,P5.out,K5.out⟩
   case measure=>simp[intOf];omega
  ·obtain rfl:j=n:=by omega
   obtain⟨c,D,T,Qu,Lb,G,rg,hp⟩:=P4.out
   obtain⟨sg,hsg⟩:∃sg,sg=G 1:=⟨_,rfl⟩
   have E5:Hid (DeS w2 wr J q (fun l=>2≤l∧l<2) sg):=Lib.hid ⟨c,D,T,Qu,Lb,G,rg,hp,fun l hl=>by omega,hsg.symm⟩
   have N8:Hid (J.n≤((8:Nat):Int)):=Lib.hid hp.pc.good.most.2
   clear hp hsg P4 P3 hlt hj HO WD MD FN
   go_wp2_with fail
   go_loopw [9] (fun s wq=>∃p:Nat,s= .int .i64 (p:Int)∧2≤p∧p≤9∧DeS w2 wq J q (fun l=>2≤l∧l<(p:Int)) sg∧KeepP w2 wq) (fun s _=>(9-(intOf s).toNat))
   case atStart=>exact⟨2,rfl,by decide,by decide,E5.out,K4.out⟩
   case round=>
    obtain⟨p,rfl,hp2,hp9,hd,hkp⟩:=hrel
    have E6:=Lib.hid hd
    have K6:=Lib.hid hkp
    clear hd hkp
    by_cases hlt:p≤8
    ·have EX:=Lib.hid (E6.out.exit (B:=fun l=>2≤l∧l<((p+1:Nat):Int)) (p:=(p:Int)) (a:=0) (by unfold I64;omega) (by decide) (fun l hl=>by omega))
     have e8:decide ((p:Int)≤8)=true:=decide_eq_true (by omega)
     go_wp2_with fail
     refine EX.out.mono ?_
     rintro e w6 ⟨⟨er,rfl⟩,hk,hd⟩
     have E7:=Lib.hid hd
     have K7:=Lib.hid (K6.out.trans hk)
     clear hd hk EX e8
     go_wp2_with fail
     go_roundw
     case rel=>exact⟨p+1,by go_num,by omega,by omega,E7.out,K7.out⟩
     case measure=>simp[intOf];omega
    ·obtain rfl:p=9:=by omega
     have A6:=Lib.hid (E6.out.alone (m:=8) (fun l h2 h8=>by omega) N8.out)
     clear E6 E5 hlt hp2 hp9
     rw[show((9:Nat):Int)=9 from rfl]
     go_wp2_with fail
     go_loopw [10] (fun s wq=>∃k:Nat,s= .int .i64 (k:Int)∧k≤8∧AlS w2 wq J q (8-k) sg∧KeepP w2 wq) (fun s _=>(8-(intOf s).toNat))
     case atStart=>exact⟨0,rfl,by decide,A6.out,K6.out⟩
     case round=>
      obtain⟨k,rfl,hk8,ha,hkp⟩:=hrel
      have A7:=Lib.hid ha
      have K7:=Lib.hid hkp
      clear ha hkp
      by_cases hlt:k<8
      ·have e9:decide ((k:Int)<8)=true:=decide_eq_true (by omega)
       have WT:Hid (AlS w2 _ J q (8-(k+1)+1) sg):=Lib.hid (by have h:=A7.out;rwa [show 8-k=8-(k+1)+1 by omega]at h)
       go_wp2_with fail
       refine WT.out.wait.mono ?_
       rintro e w8 ⟨⟨er,rfl⟩,hk,ha⟩
       have A8:=Lib.hid ha
       have K8:=Lib.hid (K7.out.trans hk)
       clear ha hk e9
       go_wp2_with fail
       go_roundw
       case rel=>exact⟨k+1,by go_num,by omega,A8.out,K8.out⟩
       case measure=>simp[intOf];omega
      ·obtain rfl:k=8:=by omega
       obtain⟨s8,rfl⟩:=A7.out.some_
       have A8:Hid (AlS w2 _ J q 0 (some s8)):=A7
       clear A7 A6 hlt hk8
       rw[show((8:Nat):Int)=8 from rfl]
       go_wp2_with fail
       refine A8.out.spaces.mono ?_
       rintro e w9 ⟨rfl,hb⟩
       have A9:=Lib.hid (A8.out.step hb)
       have K9:=Lib.hid (K7.out.trans (KeepP.below hb))
       have F9:=Lib.hid A8.out.few
       clear hb
       go_wp2_with fail
       refine A9.out.areas.mono ?_
       rintro e w10 ⟨aa,ca,rfl,ho,hb⟩
       have A10:=Lib.hid (A9.out.step hb)
       have K10:=Lib.hid (K9.out.trans (KeepP.below hb))
       obtain⟨L,hLe⟩:∃L,L=s8.ar:=⟨_,rfl⟩
       have HL:=Lib.hid hLe
       have AR:Hid (L=[]∨∃g cs,aa=some ⟨g,0,none⟩∧w10.heap[g]? =some (.cells cs 23 (0,0))∧∀V:World,V.heap[g]? =some (.cells cs 23 (0,0))→∀i,i<L.length→V.cell? ⟨g,i*3,none⟩=some (.int .i64 (L.getD i default).1)∧V.cell? ⟨g,i*3+1,none⟩=some (.int .i64 (L.getD i default).2.1)):=Lib.hid (by
        rw[hLe]
        rcases ho with h|⟨base,_,ho⟩
        ·exact Or.inl h
        ·exact arRowJ ho)
       rw[←hLe]at F9 ⊢
       obtain⟨m,hm⟩:∃m,m=L.length:=⟨_,rfl⟩
       have HM:=Lib.hid hm
       have m8:m≤8:=by have:=F9.out.few;omega
       rw[←hm]
       clear ho hb hLe hm A8 A9
       go_wp2_with fail
       go_loopw [12] (fun s wq=>∃k:Nat,s= .int .i64 (k:Int)∧k≤m∧(∃s',AlS w2 wq J q 0 (some s')∧s'.ar=L.drop k)∧KeepP w10 wq) (fun s _=>(m-(intOf s).toNat))
       case atStart=>exact⟨0,rfl,Nat.zero_le _,⟨s8,A10.out,HL.out.symm⟩,KeepP.refl _⟩
       case round=>
        obtain⟨k,rfl,hk,⟨s',ha,har⟩,hkp⟩:=hrel
        have A11:=Lib.hid ha
        have KX:=Lib.hid hkp
        have HR:=Lib.hid har
        clear ha har hkp
        by_cases hlt:k<m
        ·obtain⟨g,cs,rfl,hg,hc⟩:=AR.out.resolve_left (by intro e;have:=HM.out;rw[e]at this;simp at this;omega)
         have hkl:k<L.length:=by have:=HM.out;omega
         have hd:s'.ar=L.getD k default::L.drop (k+1):=by rw[HR.out,List.drop_eq_getElem_cons hkl,List.getD_eq_getElem?_getD,List.getElem?_eq_getElem hkl];rfl
         have hf:=F9.out.up.fit (L.getD k default) (by rw[List.getD_eq_getElem?_getD,List.getElem?_eq_getElem hkl];simp)
         have CT:Hid (∀V,KeepP wr V→V.cell? ⟨g,k*3,none⟩=some (.int .i64 (L.getD k default).1)∧V.cell? ⟨g,k*3+1,none⟩=some (.int .i64 (L.getD k default).2.1)):=Lib.hid fun V hV=>hc V ((KX.out.trans hV).box hg (by decide)) k hkl
         unfold FitD at hf
         have SH:=Lib.hid (fun V (hb:Below wr.heap.size wr V)=>(A11.out.step hb).shrink hd (by unfold I64;omega) (by unfold I64;omega))
         have SP:=Lib.hid (fun V (hb:Below wr.heap.size wr V)=>(A11.out.step hb).spaces)
         obtain⟨r,hr⟩:∃r,r=L.drop (k+1):=⟨_,rfl⟩
         have HR2:=Lib.hid hr
         rw[←hr]at SH
         clear hf hd hc hr
         generalize L.getD k default=x at SH CT
         obtain⟨x,y,xb⟩:=x
         simp only at SH CT
         obtain⟨c0,c1⟩:=CT.out wr (KeepP.refl _)
         have i0:(0:Int)≤(k:Int):=by omega
         have i1:(k:Int)<(m:Int):=by omega
         clear hkl hg
         go_wp2_with fail
         go_region_held3 (fun V=>V.cell? ⟨g,k*3,none⟩=some (.int .i64 x)∧V.cell? ⟨g,k*3+1,none⟩=some (.int .i64 y)) (first
           |with_reducible exact CT.out w11 K11.out
           |with_reducible exact CT.out w12 K12.out
           |with_reducible exact CT.out _ (KeepP.below (Below.refl _ _).drew))
          (first
           |((go_at_call 23;with_reducible refine(SP.out _ (Below.refl _ _).drew).mono ?_);rintro e w11 ⟨rfl,hb⟩;have B11:Hid (Below wr.heap.size wr w11):=Lib.hid ((Below.refl _ _).drew.trans hb);have K11:=Lib.hid (KeepP.below B11.out);clear hb)
           |((go_at_call 34;with_reducible refine(SH.out w11 B11.out).mono ?_);rintro e w12 ⟨rfl,hk,s12,ha,har⟩;have A12:=Lib.hid (And.intro ha har);have K12:=Lib.hid (K11.out.trans hk);clear ha har hk))
         all_goals
          go_wp2_with fail
          go_roundw
          case rel=>exact⟨k+1,by go_num,by omega,⟨s12,A12.out.1,A12.out.2.trans HR2.out⟩,KX.out.trans K12.out⟩
          case measure=>simp[intOf];omega
        ·obtain rfl:k=m:=by omega
         have LS:Hid (LaS w2 wr J q):=Lib.hid (A11.out.last (by decide) (by rw[HR.out,HM.out,List.drop_length]))
         have CB:Hid (∀V,Below wr.heap.size wr V→V.cell? ⟨W.heap.size,0,none⟩=some (.int .i64 (q:Int))):=Lib.hid fun V hb=>by rw[cell_of_row V _ 0 _ _ _ ((K10.out.trans (KX.out.trans (KeepP.below hb))).box X2.out (by decide))];rfl
         have AL:=Lib.hid (fun V (hb:Below wr.heap.size wr V)=>(LS.out.step hb).all)
         have LF:=Lib.hid (fun V (hb:Below wr.heap.size wr V)=>(LS.out.step hb).left)
         have FR:=Lib.hid (fun V (hb:Below wr.heap.size wr V)=>(LS.out.step hb).free)
         have RW:=Lib.hid (fun V (hb:Below wr.heap.size wr V)=>(LS.out.step hb).row)
         have BR:Hid (Below W.heap.size W wr):=Lib.hid (B2.out.trans (LS.out.below.mono B2.out.size))
         have AK:=Lib.hid (fun V (hb:Below wr.heap.size wr V)=>AW.out V (BR.out.trans (hb.mono BR.out.size)))
         have c0:=CB.out wr (Below.refl _ _)
         clear A11 LS HR AR hlt hk
         go_wp2_with fail
         go_region_held3 (fun V=>V.cell? ⟨W.heap.size,0,none⟩=some (.int .i64 (q:Int))) (first
           |with_reducible exact CB.out we BE.out
           |with_reducible exact CB.out wd BD.out
           |with_reducible exact CB.out wc BC.out
           |with_reducible exact CB.out wb BB.out
           |with_reducible exact CB.out wa BA.out
           |with_reducible exact CB.out _ (Below.refl _ _).drew)
          (first
           |((go_at_call 20;with_reducible refine(AL.out _ (Below.refl _ _).drew).mono ?_);rintro e wa ⟨⟨ga,ka,rfl⟩,hb⟩;have BA:Hid (Below wr.heap.size wr wa):=Lib.hid ((Below.refl _ _).drew.trans hb);clear hb)
           |((go_at_call 22;with_reducible refine(LF.out wa BA.out).mono ?_);rintro e wb ⟨rfl,hb⟩;have BB:Hid (Below wr.heap.size wr wb):=Lib.hid (BA.out.trans (hb.mono BA.out.size));clear hb)
           |((go_at_call 35;with_reducible refine(FR.out wb BB.out).mono ?_);rintro e wc ⟨rfl,hb⟩;have BC:Hid (Below wr.heap.size wr wc):=Lib.hid (BB.out.trans (hb.mono BB.out.size));clear hb)
           |((go_at_call 21;with_reducible refine(RW.out wc BC.out).mono ?_);rintro e wd ⟨⟨gd,kd,rfl⟩,hb⟩;have BD:Hid (Below wr.heap.size wr wd):=Lib.hid (BC.out.trans (hb.mono BC.out.size));clear hb)
           |((go_at_call 27;with_reducible refine(AK.out wd BD.out).mono ?_);rintro e we ⟨rfl,hb⟩;have BE:Hid (Below wr.heap.size wr we):=Lib.hid (BD.out.trans (hb.mono BD.out.size));clear hb))
         all_goals
          go_wp2_with fail
          go_ret
          exact⟨rfl,BR.out.trans (BE.out.mono BR.out.size)⟩
theorem procBack_walk(q sl:Int)(v:Value)(S:List Op18)(W:World)(_:I64 q∧I64 sl)(hO:ArgOps18 W v S)(hL:LaidN W):Calls Tryz.prog 5 #[.agg #[.int .i64 q, .int .i64 sl],v] W fun e w'=>e= .returned (.bool true)∧Below W.heap.size W w':=by
 by_cases h:fineB q sl=true∧S.length≤40
 ·have h5:=fineB_iff.1 h.1
  obtain⟨n,rfl⟩:∃n:Nat,q=(n:Int):=⟨q.toNat,by omega⟩
  exact back18_in n sl v S W (by omega) (by omega) h5.2 h.2 hO hL
 ·obtain⟨a,cp,rfl,_⟩:=hO
  refine back_far q sl a _ cp W ?_ hL
  cases hf:fineB q sl with
  |false=>exact Or.inl rfl
  |true=>
   have h9:¬S.length≤40:=fun h2=>h ⟨hf,h2⟩
   exact Or.inr ⟨rfl,by omega⟩
end Go.Proofs.YtammlljefhakmaaGreatDoor
namespace Go.Proofs.YtammlljefhakmaaGreatDoor
open Go.ChangeShapes Go.WideShapes Go.ChangeAt Go.RowKit Go.Joins
set_option maxRecDepth 100000
theorem Ai(os:Os)(started:os.Started)(H:Type)(enc:TypeId×Value→H):
  ReturnsInHanded {} Tryz.checked os 5 .any (fun w args=>(Rows.procBackSpec.pre enc Tryz.prog Tryz.f5 [] false w args∧laidMetH Tryz.prog jV w)∧sizedMet enc Tryz.prog Tryz.f5 (OpenSpec.ofChange Rows.procBackSpec) false w args)
   (Rows.procBackSpec.post enc Tryz.prog Tryz.f5 false true false false):=by
 refine nV Ci (tb:=4) started (by kernel_rfl) Tryz.func5 rfl rfl Tryz.underlying4 (by kernel_rfl)
  (fun ds h=>by match ds,h with|[_,_],_=>rfl)
  (ChangeSpec.witness_shaped (enc:=enc) (C:=Tryz.checked) (os:=os) (X:=fun w _=>laidMetH Tryz.prog jV w) false (World.doorLaid Tryz.prog 400 os) #[.agg #[.int .i64 0, .int .i64 0], .slice none 0 0] 8 rfl (World.shaped_of_RefB (by kernel_rfl) (by kernel_rfl)) (by kernel_rfl) (by kernel_rfl) (by kernel_rfl) (vM os _)) ?_
 intro W args ds p base hval hA hlt hL
 rw[Tryz.params5]at hA hval
 obtain⟨v0,vs0,d0,ds0,p0,q0,hargs,rfl,rfl,h0,r0⟩:=trodAll_cons hA
 obtain⟨v1,vs1,d1,ds1,p1,q1,rfl,rfl,rfl,h1,r1⟩:=trodAll_cons r0
 obtain⟨rfl,rfl,rfl⟩:=trodAll_nil r1
 obtain rfl:args=#[v0,v1]:=by cases args;simp_all
 obtain⟨x0,y0,rfl,ax0,ay0⟩:=zk (hval 0 29 v0 rfl rfl) h0
 obtain⟨S1,O1⟩:=OG (hval 1 70 v1 rfl rfl) h1 (fun x hx=>hlt x (by simp[hx]))
 exact procBack_walk x0 y0 v1 S1 W ⟨ax0,ay0⟩ O1 hL
theorem procBack_holds:Rows.ProcBackSaid:=
 OpenClaim.holds_of_wide 5 Tryz.f5 rfl rfl rfl rfl rfl rfl rfl ⟨rfl,rfl,rfl,rfl,rfl⟩ rfl rfl rfl rfl rfl (by kernel_rfl) Tryz.func5 (by kernel_rfl)
  (of_decide_eq_true (by kernel_rfl)) (by unfold Func.isWrapper;first|(rw[if_pos (by decide+kernel)];kernel_rfl)|(rw[if_neg (by decide+kernel)];exact⟨rfl,rfl⟩))
  (fun os started H enc _=>Ai os started H enc)
theorem procBack_card:Rows.ProcBackCardSaid:=
 Claim7.holds_tied_plain_at .later [] [.data, .data, .data] true Rows.procBackCard.stood.harness false
  procBack_holds (fun _ h=>by cases h) (by kernel_rfl) (fun _ h=>by cases h) procBack_row_tie rfl ⟨rfl,rfl⟩ (by kernel_rfl) rfl
  (fun f fn hf hfn=>by
   obtain rfl:f=5:=Option.some.inj ((show Tryz.prog.funcNamed "priory/priorylaw18.ProcBack" =some 5 by kernel_rfl).symm.trans hf) |>.symm
   obtain rfl:fn=Tryz.f5:=(Option.some.inj (Tryz.func5.symm.trans hfn)).symm
   exact⟨by kernel_rfl,fun j t ht=>by
    rw[Tryz.params5]at ht
    have hm:t∈[29,70]:=by simpa using Array.mem_of_getElem? ht
    have hall:([29,70].all fun u=> !Tryz.prog.wantsStandIn u)=true:=by kernel_rfl
    exact(show Tryz.prog.wantsStandIn t=false by simpa using List.all_eq_true.1 hall t hm)⟩)
  (by kernel_rfl)
end Go.Proofs.YtammlljefhakmaaGreatDoor
