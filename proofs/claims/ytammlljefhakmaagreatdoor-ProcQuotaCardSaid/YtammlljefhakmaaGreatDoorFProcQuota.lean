/- The law ProcQuota returns true for every input, and its arguments read behind the call as they read before. Conditions: none beyond the row's own: the masks and the library's two tables start as the text lays them, which the card ties. -/
import Derived.Test.YtammlljefhakmaaGreatDoorIN
import Derived.Test.YtammlljefhakmaaGreatDoorHY
import Derived.Test.YtammlljefhakmaaGreatDoorOP
import Derived.Test.YtammlljefhakmaaGreatDoorTie
import Derived.Test.YtammlljefhakmaaGreatDoorCards
import Derived.SevenTiedAt
namespace Go.Proofs.YtammlljefhakmaaGreatDoor
open Go.RowKit Go.Maps
set_option maxRecDepth 100000
theorem TN(q sl:Int)(a:Option Addr)(n cp:Nat)(k:Int)(W:World)(h:fineB q sl=false∨fineB q sl=true∧(q<4∨4≤q∧(sl<2∨2≤sl∧(20:Int)<(n:Int))))(hL:LaidN W):Calls Tryz.prog 9 #[.agg #[.int .i64 q, .int .i64 sl], .slice a n cp, .int .i64 k] W fun e w'=>e= .returned (.bool true)∧Below W.heap.size W w':=by
 have B1:=Lib.hid (Below.alloc (Below.refl W.heap.size W) (Nat.le_refl _) (pcO q sl))
 have X1:=Lib.hid (heap_alloc_new W (pcO q sl))
 have AW:=Lib.hid (fun V (hb:Below W.heap.size W V)=>hL.awake18 V hb)
 have h':∃fb,(fineB q sl=fb)∧(fb=false∨fb=true∧(decide (q<4)=true∨decide (q<4)=false∧(decide (sl<2)=true∨decide (sl<2)=false∧decide ((20:Int)<(n:Int))=true))):=by
  refine⟨_,rfl,h.imp id fun⟨h0,h1⟩=>⟨h0,?_⟩⟩
  rcases h1 with h1|⟨h1,h2|⟨h2,h3⟩⟩
  ·exact Or.inl (decide_eq_true h1)
  ·exact Or.inr ⟨decide_eq_false (by omega),Or.inl (decide_eq_true h2)⟩
  ·exact Or.inr ⟨decide_eq_false (by omega),Or.inr ⟨decide_eq_false (by omega),decide_eq_true h3⟩⟩
 clear h hL
 obtain⟨fb,hf,hc⟩:=h'
 have FN:=Lib.hid (fun V=>fine18_ok q sl V hf)
 clear hf
 rcases hc with rfl|⟨rfl,d1|⟨d1,d2|⟨d2,d3⟩⟩⟩
 all_goals
  go_enter Tryz.func9,Tryz.ntmps9
  go_wp2_with fail
  refine(FN.out _).mono ?_
  rintro e w2 ⟨rfl,hb⟩
  have B2:=Lib.hid (B1.out.trans (hb.mono B1.out.size))
  have X2:=Lib.hid (below_block hb X1.out)
  have q0:w2.cell? ⟨W.heap.size,0,none⟩=some (.int .i64 q):=by rw[cell_of_row w2 _ 0 _ _ _ X2.out];rfl
  have q1:w2.cell? ⟨W.heap.size,1,none⟩=some (.int .i64 sl):=by rw[cell_of_row w2 _ 1 _ _ _ X2.out];rfl
  have AW2:=Lib.hid (AW.out w2 B2.out)
  clear hb
  go_wp2_with fail
  refine AW2.out.mono ?_
  rintro e w3 ⟨rfl,hb⟩
  have B3:=Lib.hid (B2.out.trans (hb.mono B2.out.size))
  clear hb q0 q1
  go_wp2_with fail
  go_ret
  exact⟨rfl,B3.out⟩
structure pF(W w:World)(J:kY)(q:Nat)(sl:Int)(c:Nat)(u:Int):Prop where
 ex:∃D G rg,bY W w J q c D xQ [1] [(1,0,(q:Int),u)] G rg
 u0:0≤u
 n:J.n=sl
theorem pF.step{W w w':World}{J:kY}{q:Nat}{sl:Int}{c:Nat}{u:Int}(h:pF W w J q sl c u)(hb:Below w.heap.size w w'):pF W w' J q sl c u:=by
 obtain⟨D,G,rg,hp⟩:=h.ex
 exact⟨⟨D,G,rg,hp.step hb⟩,h.u0,h.n⟩
theorem pF.below{W w:World}{J:kY}{q:Nat}{sl:Int}{c:Nat}{u:Int}(h:pF W w J q sl c u):Below W.heap.size W w:=by
 obtain⟨D,G,rg,hp⟩:=h.ex
 exact hp.below
theorem pF.left{W w:World}{J:kY}{q:Nat}{sl:Int}{c:Nat}{u:Int}(h:pF W w J q sl c u):Calls Tryz.prog 22 #[.pointer (some ⟨J.ps,0,none⟩), .int .i64 1] w fun e w'=>e= .returned (.int .i64 ((q:Int)-u))∧Below w.heap.size w w':=by
 obtain⟨D,G,rg,hp⟩:=h.ex
 exact hp.left 1 (left_oneU _ _)
theorem pF.free{W w:World}{J:kY}{q:Nat}{sl:Int}{c:Nat}{u:Int}(h:pF W w J q sl c u):Calls Tryz.prog 35 #[.pointer (some ⟨J.I.X.pb,0,none⟩), .int .i64 0] w fun e w'=>e= .returned (.int .i64 (c:Int))∧Below w.heap.size w w':=by
 obtain⟨D,G,rg,hp⟩:=h.ex
 exact hp.abm
theorem pF.all{W w:World}{J:kY}{q:Nat}{sl:Int}{c:Nat}{u:Int}(h:pF W w J q sl c u):Calls Tryz.prog 20 #[.pointer (some ⟨J.ps,0,none⟩)] w fun e w'=>(∃a cp,e= .returned (.slice a 1 cp))∧Below w.heap.size w w':=by
 obtain⟨D,G,rg,hp⟩:=h.ex
 refine hp.all.mono ?_
 rintro e w' ⟨v,rfl,ho,hb⟩
 obtain⟨a,cp,rfl⟩:=fK ho
 exact⟨⟨a,cp,rfl⟩,hb⟩
theorem pF.bound{W w:World}{J:kY}{q:Nat}{sl:Int}{c:Nat}{u:Int}(h:pF W w J q sl c u):u≤q:=by
 obtain⟨D,G,rg,hp⟩:=h.ex
 have h0:=hp.pc.tree.left (1,0,(q:Int),u) (by simp)
 simp[eT,bD]at h0
 omega
theorem pF.fork{W w:World}{J:kY}{q:Nat}{sl:Int}{c:Nat}{u:Int}(h:pF W w J q sl c u)(hs:2≤sl)(k:Int):Calls Tryz.prog 11 #[.pointer (some ⟨J.ps,0,none⟩), .int .i64 1, .int .i64 k] w fun e w'=>
  (¬(1≤k∧k≤256)∧e= .returned (.tuple #[.int .i64 0, .int .i64 2])∧pF W w' J q sl c u)∨((1≤k∧k≤256)∧¬(k≤q-u∧u≤k)∧e= .returned (.tuple #[.int .i64 0, .int .i64 3])∧pF W w' J q sl c u)∨
  (((1≤k∧k≤256)∧k≤q-u∧u≤k)∧e= .returned (.tuple #[.int .i64 2, .int .i64 0])∧∃c',c'<c∧∃D T Qu Lb G rg,bY W w' J q c' D T Qu Lb G rg∧aO Lb 1=q-u-k∧aO Lb 2=k-u):=by
 obtain⟨D,G,rg,hp⟩:=h.ex
 have hu:=Gy (q:=(q:Int)) h.u0
 have e1:∀may,cK xQ 1 may=if may=true then 0 else 2:=fun may=>by cases may<;>decide
 have e2:fJ xQ 1=1:=by decide
 have e3:kR J.n xQ 1=0:=by rw[Dg e2,h.n,if_neg (by show((1:Nat):Int)≠sl;omega)]
 have e4:aF 1 xQ=2:=by decide
 refine(hp.fork (p:=1) (quota:=k) (by decide)).mono ?_
 rw[hu]
 rintro e w' ⟨rfl,_,hq⟩
 by_cases hk:1≤k∧k≤256
 ·by_cases hf:k≤q-u∧u≤k
  ·have hb:bX J.n xQ [(1,0,(q:Int),u)] 1 k u=0:=by
    unfold bX
    rw[e1,oq.2 hk,if_pos rfl,if_neg (by decide),e2,if_neg (by decide),left_oneU,if_neg (by omega),e3]
   refine Or.inr (Or.inr ⟨⟨hk,hf⟩,by rw[hb,uK rfl,e4],?_⟩)
   obtain⟨h0,_⟩|⟨_,c',D',G',dX,mq,hp',_,hL,_,_,_,hc⟩:=hq
   ·exact absurd hb h0
   ·rw[hu,e4]at hL
    subst hL
    obtain⟨l1,l2⟩:=Oh (q:=(q:Int)) h.u0 ⟨hk,hf⟩
    exact⟨c',hc,D',_,_,_,G',mq,hp',l1,l2⟩
  ·have hb:bX J.n xQ [(1,0,(q:Int),u)] 1 k u=3:=by
    unfold bX
    rw[e1,oq.2 hk,if_pos rfl,if_neg (by decide),e2,if_neg (by decide),left_oneU,if_pos (by omega)]
   refine Or.inr (Or.inl ⟨hk,hf,by rw[hb];rfl,?_⟩)
   obtain⟨_,hp'⟩|⟨h0,_⟩:=hq
   ·exact⟨⟨_,_,_,hp'⟩,h.u0,h.n⟩
   ·rw[hb]at h0;cases h0
 ·have hb:bX J.n xQ [(1,0,(q:Int),u)] 1 k u=2:=by
   unfold bX
   have:vU k=false:=by
    cases hx:vU k with
    |false=>rfl
    |true=>exact absurd (oq.1 hx) hk
   rw[e1,this,if_pos (by decide)]
   rfl
  refine Or.inl ⟨hk,by rw[hb];rfl,?_⟩
  obtain⟨_,hp'⟩|⟨h0,_⟩:=hq
  ·exact⟨⟨_,_,_,hp'⟩,h.u0,h.n⟩
  ·rw[hb]at h0;cases h0
set_option maxHeartbeats 8000000 in
theorem Yc(q:Nat)(sl:Int)(v:Value)(L:List Int)(k:Int)(W:World)(h4:4≤q)(h60:q≤60)(hs:2≤sl)(Xj:sl≤8)(hlen:L.length≤20)(hk:I64 k)(hO:Yb W v L)(hL:LaidN W):Calls Tryz.prog 9 #[.agg #[.int .i64 (q:Int), .int .i64 sl],v, .int .i64 k] W fun e w'=>e= .returned (.bool true)∧Below W.heap.size W w':=by
 have B1:=Lib.hid (Below.alloc (Below.refl W.heap.size W) (Nat.le_refl _) (pcO (q:Int) sl))
 obtain⟨w1,hw1⟩:∃w1,w1=W.alloc (pcO (q:Int) sl):=⟨_,rfl⟩
 have X1:Hid (w1.heap[W.heap.size]? =some (pcO (q:Int) sl)):=Lib.hid (by rw[hw1];exact heap_alloc_new W _)
 rw[←hw1]at B1
 have AW:=Lib.hid (fun V (hb:Below W.heap.size W V)=>hL.awake18 V hb)
 have FN:=Lib.hid (fun V=>fine18_ok (q:Int) sl V (fineB_iff.2 ⟨by omega,by omega⟩))
 have MD:=Lib.hid (fun V (hb:Below W.heap.size W V)=>made18_ok q sl V (by omega) h60 (by omega) (hL.lq.below hb) (hL.lw.below hb))
 obtain⟨a,cp,rfl,hwd,hO⟩:=hO
 have WD:=Lib.hid hwd
 have HO:=Lib.hid hO
 obtain⟨n,hn⟩:∃n,n=L.length:=⟨_,rfl⟩
 have HN:=Lib.hid hn
 have n20:n≤20:=by omega
 have d1:decide ((q:Int)<4)=false:=decide_eq_false (by omega)
 have d2:decide (sl<2)=false:=decide_eq_false (by omega)
 have d3:decide ((20:Int)<(n:Int))=false:=decide_eq_false (by omega)
 have HQ:=Lib.hid (And.intro h4 (And.intro h60 (And.intro hs hk)))
 rw[←hn]
 clear hwd hO hlen hn hL h4 h60 hs Xj hk
 go_enter Tryz.func9,Tryz.ntmps9
 go_wp2_with fail
 rw[←hw1]
 clear hw1
 refine(FN.out w1).mono ?_
 rintro e w2 ⟨rfl,hb⟩
 have B2:=Lib.hid (B1.out.trans (hb.mono B1.out.size))
 have X2:=Lib.hid (below_block hb X1.out)
 have q0:w2.cell? ⟨W.heap.size,0,none⟩=some (.int .i64 (q:Int)):=by rw[cell_of_row w2 _ 0 _ _ _ X2.out];rfl
 have q1:w2.cell? ⟨W.heap.size,1,none⟩=some (.int .i64 sl):=by rw[cell_of_row w2 _ 1 _ _ _ X2.out];rfl
 clear hb
 go_wp2_with fail
 refine(MD.out w2 B2.out).mono ?_
 rintro e w3 ⟨J,s,rfl,hsa,hJ,hp⟩
 have P3:=Lib.hid hp
 have HJ:=Lib.hid (And.intro hsa hJ)
 have BW3:=Lib.hid (B2.out.trans (hp.below.mono B2.out.size))
 have X3:=Lib.hid (below_block hp.below X2.out)
 clear hsa hJ hp q0 q1
 go_wp2_with fail
 refine P3.out.spaces.mono ?_
 rintro e w4 ⟨rfl,hb⟩
 have P4:=Lib.hid (P3.out.step hb)
 have X4:=Lib.hid (below_block hb X3.out)
 clear hb
 have GR:=Lib.hid (P4.out.abk (i:=1) (s:=s) (putG_same _ _ _) 0 20 true (by decide) (by decide))
 go_wp2_with fail
 refine GR.out.mono ?_
 rintro e w5 ⟨er,M,ha,rfl,hk5,hz⟩
 rw[HJ.out.1]at ha
 obtain rfl:er=0:=TF (by unfold FitD;omega) ha
 have S5:Hid (pF w2 w5 J q sl (q-1) 1):=Lib.hid (by
  rcases hz with⟨h0,_⟩|⟨_,v,hp⟩
  ·exact absurd rfl h0
  ·exact⟨⟨_,_,_,hp⟩,by decide,HJ.out.2⟩)
 have X5:=Lib.hid (hk5.box X4.out (by decide))
 clear ha hk5 hz GR
 go_wp2_with fail
 go_loopw [10] (fun s wr=>∃(j:Nat) (c:Nat) (u:Int),s= .int .i64 (j:Int)∧j≤n∧pF w2 wr J q sl c u∧KeepP w5 wr) (fun s _=>(n-(intOf s).toNat))
 case atStart=>exact⟨0,_,_,rfl,Nat.zero_le _,S5.out,KeepP.refl _⟩
 case round=>
  obtain⟨j,c,u,rfl,hj,h1,hK⟩:=hrel
  have S6:=Lib.hid h1
  have K6:=Lib.hid hK
  clear h1 hK
  by_cases hlt:j<n
  ·obtain⟨b,o,rfl,hb1,hb2⟩:=HO.out.resolve_left (by intro e;have:=HN.out;rw[e]at this;simp at this;omega)
   have hx:=hb2 j (by have:=HN.out;omega)
   have hmem:L.getD j 0∈L:=by rw[List.getD_eq_getElem?_getD,List.getElem?_eq_getElem (by have:=HN.out;omega)];simp
   have WX:=Lib.hid (WD.out _ hmem)
   generalize L.getD j 0=x at hx WX
   have LC:=Lib.hid (fun V (hb:Below W.heap.size W V)=>(hb.cell (p:=⟨b,o+j,none⟩) hb1).trans hx)
   have BW6:=Lib.hid (B2.out.trans (S6.out.below.mono B2.out.size))
   have hL:=LC.out wr BW6.out
   obtain⟨D,G,rg,hp⟩:=S6.out.ex
   have SP:=Lib.hid (fun V (hb:Below wr.heap.size wr V)=>(hp.step hb).spaces)
   have ST:=Lib.hid (fun V (hb:Below wr.heap.size wr V)=>(hp.step hb).XU 1 x 1 (by have:=WX.out;omega) (by decide))
   have U0:=Lib.hid (And.intro S6.out.u0 S6.out.n)
   clear hb1 hb2 hx hmem hp
   go_wp2_with fail
   go_region_held3 (fun V=>V.cell? ⟨b,o+j,none⟩=some (.int .u32 x)) (first
     |with_reducible exact LC.out w8 B8.out
     |with_reducible exact LC.out w7 (BW6.out.trans (B7.out.mono BW6.out.size))
     |with_reducible exact LC.out _ BW6.out.drew)
    (first
     |((go_at_call 23;with_reducible refine(SP.out _ (Below.refl _ _).drew).mono ?_);rintro e w7 ⟨rfl,hb⟩;have B7:Hid (Below wr.heap.size wr w7):=Lib.hid ((Below.refl _ _).drew.trans hb);clear hb)
     |((go_at_call 38;with_reducible refine(ST.out w7 B7.out).mono ?_);rintro e w8 ⟨er,c',D',dX,rfl,hk,hp,hl⟩;have K8:=Lib.hid ((KeepP.below B7.out).trans hk);have P8:Hid (∃u',pF w2 w8 J q sl c' u'):=Lib.hid (by(rcases hl with rfl|⟨k,rfl⟩);(exact⟨u,⟨_,_,_,hp⟩,U0.out.1,U0.out.2⟩);(obtain⟨u',h0,he⟩:=Mh (q:Int) u k U0.out.1;rw[he]at hp;exact⟨u',⟨_,_,_,hp⟩,h0,U0.out.2⟩));have B8:Hid (Below W.heap.size W w8):=Lib.hid (B2.out.trans (hp.below.mono B2.out.size));clear hk hp hl))
   all_goals
    go_wp2_with fail
    obtain⟨u',Xj⟩:=P8.out
    go_roundw
    case rel=>exact⟨j+1,c',u',by go_num,by omega,Xj,K6.out.trans K8.out⟩
    case measure=>simp[intOf];omega
  ·obtain rfl:j=n:=by omega
   have X6:=Lib.hid (K6.out.box X5.out (by decide))
   have LF:=Lib.hid (fun V (hb:Below wr.heap.size wr V)=>(S6.out.step hb).left)
   obtain⟨lf,hlf⟩:∃lf:Int,lf=(q:Int)-u:=⟨_,rfl⟩
   have HF:=Lib.hid hlf
   rw[←hlf]at LF
   clear hlf
   have UB:=Lib.hid (And.intro S6.out.u0 S6.out.bound)
   have LB:Hid (0≤lf∧lf≤60):=Lib.hid (by have:=UB.out;have:=HF.out;have:=HQ.out;omega)
   have eqf:(lf==lf)=true:=by simp
   go_wp2_with fail
   refine(LF.out wr (Below.refl _ _)).mono ?_
   rintro e w7 ⟨rfl,hb⟩
   have S7:=Lib.hid (S6.out.step hb)
   have X7:=Lib.hid (below_block hb X6.out)
   clear hb
   go_wp2_with fail
   refine S7.out.free.mono ?_
   rintro e w8 ⟨rfl,hb⟩
   have S8:=Lib.hid (S7.out.step hb)
   have X8:=Lib.hid (below_block hb X7.out)
   have q0:w8.cell? ⟨W.heap.size,0,none⟩=some (.int .i64 (q:Int)):=by rw[cell_of_row w8 _ 0 _ _ _ X8.out];rfl
   clear hb
   have i1: -9223372036854775808≤(q:Int)-lf:=by have:=LB.out;omega
   have i2:(q:Int)-lf≤9223372036854775807:=by have:=LB.out;have:=HQ.out.2.1;omega
   have FK:=Lib.hid (S8.out.fork HQ.out.2.2.1 k)
   have LG:Hid (∀(V:World) (c0:Nat),pF w2 V J q sl c0 u→Calls Tryz.prog 22 #[.pointer (some ⟨J.ps,0,none⟩), .int .i64 1] V fun e w'=>e= .returned (.int .i64 lf)∧Below V.heap.size V w'):=Lib.hid fun V c0 h=>by rw[HF.out];exact h.left
   have END:=Lib.hid (fun V (hb:Below w2.heap.size w2 V)=>AW.out V (B2.out.trans (hb.mono B2.out.size)))
   clear X1 X2 FN MD WD HO P3 BW3 X3 P4 X4 S5 X5 LF S6 K6 X6 S7 X7 X8
   go_wp2_with fail
   refine FK.out.mono ?_
   rintro e w9 (⟨hn,rfl,h9⟩|⟨hk,hn,rfl,h9⟩|⟨⟨hk,hf1,hf2⟩,rfl,c',hlt,h9⟩)
   ·have S9:=Lib.hid h9
    have dk:decide (k<1)=true∨decide (k<1)=false∧decide (256<k)=true:=by
     by_cases hx:k<1
     ·exact Or.inl (decide_eq_true hx)
     ·exact Or.inr ⟨decide_eq_false hx,decide_eq_true (by omega)⟩
    clear h9 hn q0
    rcases dk with k1|⟨k1,k2⟩
    all_goals
     go_wp2_with fail
     refine(LG.out _ _ S9.out).mono ?_
     rintro e w10 ⟨rfl,hb⟩
     have S10:=Lib.hid (S9.out.step hb)
     clear hb
     go_wp2_with fail
     refine(END.out w10 S10.out.below).mono ?_
     rintro e w11 ⟨rfl,hb⟩
     have B11:=Lib.hid ((B2.out.trans (S10.out.below.mono B2.out.size)).trans (hb.mono (B2.out.trans (S10.out.below.mono B2.out.size)).size))
     clear hb
     go_wp2_with fail
     go_ret
     exact⟨rfl,B11.out⟩
   ·have S9:=Lib.hid h9
    have k1:decide (k<1)=false:=decide_eq_false (by omega)
    have k2:decide (256<k)=false:=decide_eq_false (by omega)
    have dk:decide (k≤lf)=false∨decide (k≤lf)=true∧decide ((q:Int)-lf≤k)=false:=by
     have:=HF.out
     by_cases hx:k≤lf
     ·exact Or.inr ⟨decide_eq_true hx,decide_eq_false (by omega)⟩
     ·exact Or.inl (decide_eq_false hx)
    have eqc:((c:Int)==(c:Int))=true:=by simp
    clear h9 hn hk q0
    rcases dk with k3|⟨k3,k4⟩
    all_goals
     go_wp2_with fail
     refine(LG.out _ _ S9.out).mono ?_
     rintro e w10 ⟨rfl,hb⟩
     have S10:=Lib.hid (S9.out.step hb)
     clear hb
     go_wp2_with fail
     refine S10.out.free.mono ?_
     rintro e w11 ⟨rfl,hb⟩
     have S11:=Lib.hid (S10.out.step hb)
     clear hb
     go_wp2_with fail
     refine S11.out.all.mono ?_
     rintro e w12 ⟨⟨a12,c12,rfl⟩,hb⟩
     have S12:=Lib.hid (S11.out.step hb)
     clear hb
     go_wp2_with fail
     refine(END.out w12 S12.out.below).mono ?_
     rintro e w13 ⟨rfl,hb⟩
     have Ue:=Lib.hid ((B2.out.trans (S12.out.below.mono B2.out.size)).trans (hb.mono (B2.out.trans (S12.out.below.mono B2.out.size)).size))
     clear hb
     go_wp2_with fail
     go_ret
     exact⟨rfl,Ue.out⟩
   ·obtain⟨D,T,Qu,Lb,G,rg,hp,hl1,hl2⟩:=h9
    have P9:=Lib.hid hp
    have k1:decide (k<1)=false:=decide_eq_false (by omega)
    have k2:decide (256<k)=false:=decide_eq_false (by omega)
    have k3:decide (k≤lf)=true:=decide_eq_true (by have:=HF.out;omega)
    have k4:decide ((q:Int)-lf≤k)=true:=decide_eq_true (by have:=HF.out;omega)
    have k5:decide (c'<c)=true:=decide_eq_true hlt
    have L1:Hid (aO Lb 1=lf-k):=Lib.hid (by have:=HF.out;omega)
    have L2:Hid (aO Lb 2=k-((q:Int)-lf)):=Lib.hid (by have:=HF.out;omega)
    have i3: -9223372036854775808≤lf-k:=by have:=LB.out;omega
    have i4:lf-k≤9223372036854775807:=by have:=LB.out;omega
    have i5: -9223372036854775808≤k-((q:Int)-lf):=by have:=LB.out;have:=HQ.out.2.1;omega
    have i6:k-((q:Int)-lf)≤9223372036854775807:=by have:=LB.out;have:=HQ.out.2.1;omega
    have eq1:(lf-k==lf-k)=true:=by simp
    have eq2:(k-((q:Int)-lf)==k-((q:Int)-lf))=true:=by simp
    clear hp hl1 hl2 hk hf1 hf2 hlt q0
    go_wp2_with fail
    refine(P9.out.left 1 L1.out).mono ?_
    rintro e w10 ⟨rfl,hb⟩
    have XV:=Lib.hid (P9.out.step hb)
    clear hb
    go_wp2_with fail
    refine(XV.out.left 2 L2.out).mono ?_
    rintro e w11 ⟨rfl,hb⟩
    have Gx:=Lib.hid (XV.out.step hb)
    clear hb
    go_wp2_with fail
    refine Gx.out.abm.mono ?_
    rintro e w12 ⟨rfl,hb⟩
    have P12:=Lib.hid (Gx.out.step hb)
    clear hb
    go_wp2_with fail
    refine(END.out w12 P12.out.below).mono ?_
    rintro e w13 ⟨rfl,hb⟩
    have Ue:=Lib.hid ((B2.out.trans (P12.out.below.mono B2.out.size)).trans (hb.mono (B2.out.trans (P12.out.below.mono B2.out.size)).size))
    clear hb
    go_wp2_with fail
    go_ret
    exact⟨rfl,Ue.out⟩
theorem Dt(q sl:Int)(v:Value)(L:List Int)(k:Int)(W:World)(hq:I64 q∧I64 sl)(hO:Yb W v L)(hk:I64 k)(hL:LaidN W):Calls Tryz.prog 9 #[.agg #[.int .i64 q, .int .i64 sl],v, .int .i64 k] W fun e w'=>e= .returned (.bool true)∧Below W.heap.size W w':=by
 by_cases h:fineB q sl=true∧4≤q∧2≤sl∧L.length≤20
 ·obtain⟨h1,h2,h3,h4⟩:=h
  have h5:=fineB_iff.1 h1
  obtain⟨n,rfl⟩:∃n:Nat,q=(n:Int):=⟨q.toNat,by omega⟩
  exact Yc n sl v L k W (by omega) (by omega) h3 h5.2.2 h4 hk hO hL
 ·obtain⟨a,cp,rfl,_⟩:=hO
  refine TN q sl a _ cp k W ?_ hL
  cases hf:fineB q sl with
  |false=>exact Or.inl rfl
  | true=>
   refine Or.inr ⟨rfl,?_⟩
   have:=fun x y z=>h ⟨hf,x,y,z⟩
   by_cases h4:4≤q
   ·refine Or.inr ⟨h4,?_⟩
    by_cases h2:2≤sl
    ·refine Or.inr ⟨h2,?_⟩
     have h9:¬L.length≤20:=this h4 h2
     omega
    ·exact Or.inl (by omega)
   ·exact Or.inl (by omega)
end Go.Proofs.YtammlljefhakmaaGreatDoor
namespace Go.Proofs.YtammlljefhakmaaGreatDoor
open Go.ChangeShapes Go.WideShapes Go.ChangeAt Go.RowKit Go.Joins
set_option maxRecDepth 100000
theorem zf(os:Os)(started:os.Started)(H:Type)(enc:TypeId×Value→H):
  ReturnsInHanded {} Tryz.checked os 9 .any (fun w args=>(Rows.procQuotaSpec.pre enc Tryz.prog Tryz.f9 [] false w args∧laidMetH Tryz.prog gU w)∧sizedMet enc Tryz.prog Tryz.f9 (OpenSpec.ofChange Rows.procQuotaSpec) false w args)
   (Rows.procQuotaSpec.post enc Tryz.prog Tryz.f9 false true false false):=by
 refine kJ wV (tb:=4) started (by kernel_rfl) Tryz.func9 rfl rfl Tryz.underlying4 (by kernel_rfl)
  (fun ds h=>by match ds,h with|[_,_,_],_=>rfl)
  (ChangeSpec.witness_shaped (enc:=enc) (C:=Tryz.checked) (os:=os) (X:=fun w _=>laidMetH Tryz.prog gU w) false (World.doorLaid Tryz.prog 400 os) #[.agg #[.int .i64 0, .int .i64 0], .slice none 0 0, .int .i64 0] 8 rfl (World.shaped_of_RefB (by kernel_rfl) (by kernel_rfl)) (by kernel_rfl) (by kernel_rfl) (by kernel_rfl) (qM os _)) ?_
 intro W args ds p base hval hA hlt hL
 rw[Tryz.params9]at hA hval
 obtain⟨v0,vs0,d0,ds0,p0,q0,hargs,rfl,rfl,h0,r0⟩:=trodAll_cons hA
 obtain⟨v1,vs1,d1,ds1,p1,q1,rfl,rfl,rfl,h1,r1⟩:=trodAll_cons r0
 obtain⟨v2,vs2,d2,ds2,p2,q2,rfl,rfl,rfl,h2,r2⟩:=trodAll_cons r1
 obtain⟨rfl,rfl,rfl⟩:=trodAll_nil r2
 obtain rfl:args=#[v0,v1,v2]:=by cases args;simp_all
 obtain⟨x0,y0,rfl,ax0,ay0⟩:=uM (hval 0 29 v0 rfl rfl) h0
 obtain⟨S1,O1⟩:=TM (hval 1 87 v1 rfl rfl) h1 (fun x hx=>hlt x (by simp[hx]))
 obtain⟨x2,rfl,rfl,rfl,wx2⟩:=open_int Tryz.underlying3 (hval 2 3 v2 rfl rfl) h2
 exact Dt x0 y0 v1 S1 x2 W ⟨ax0,ay0⟩ O1 (bounds_i64 wx2) hL
theorem procQuota_holds:Rows.ProcQuotaSaid:=
 OpenClaim.holds_of_wide 9 Tryz.f9 rfl rfl rfl rfl rfl rfl rfl ⟨rfl,rfl,rfl,rfl,rfl⟩ rfl rfl rfl rfl rfl (by kernel_rfl) Tryz.func9 (by kernel_rfl)
  (of_decide_eq_true (by kernel_rfl)) (by unfold Func.isWrapper;first|(rw[if_pos (by decide+kernel)];kernel_rfl)|(rw[if_neg (by decide+kernel)];exact⟨rfl,rfl⟩))
  (fun os started H enc _=>zf os started H enc)
theorem procQuota_card:Rows.ProcQuotaCardSaid:=
 Claim7.holds_tied_plain_at .later [] [.data, .data, .data] true Rows.procQuotaCard.stood.harness false
  procQuota_holds (fun _ h=>by cases h) (by kernel_rfl) (fun _ h=>by cases h) procQuota_row_tie rfl ⟨rfl,rfl⟩ (by kernel_rfl) rfl
  (fun f fn hf hfn=>by
   obtain rfl:f=9:=Option.some.inj ((show Tryz.prog.funcNamed "priory/priorylaw18.ProcQuota" =some 9 by kernel_rfl).symm.trans hf) |>.symm
   obtain rfl:fn=Tryz.f9:=(Option.some.inj (Tryz.func9.symm.trans hfn)).symm
   exact⟨by kernel_rfl,fun j t ht=>by
    rw[Tryz.params9]at ht
    have hm:t∈[29,87,3]:=by simpa using Array.mem_of_getElem? ht
    have hall:([29,87,3].all fun u=> !Tryz.prog.wantsStandIn u)=true:=by kernel_rfl
    exact(show Tryz.prog.wantsStandIn t=false by simpa using List.all_eq_true.1 hall t hm)⟩)
  (by kernel_rfl)
end Go.Proofs.YtammlljefhakmaaGreatDoor
