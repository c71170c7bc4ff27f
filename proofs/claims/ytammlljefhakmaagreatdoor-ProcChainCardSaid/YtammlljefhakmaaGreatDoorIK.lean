/- Helps of the proof. No condition. -/
import Derived.Test.YtammlljefhakmaaGreatDoorIJ
namespace Go.Proofs.YtammlljefhakmaaGreatDoor
open Go.RowKit Go.Maps
set_option maxRecDepth 100000
section
theorem AU{q:Int}{L:List Nd}(h:Tree q L){id up n:Int}(he:jc L id up n=0):(∀i,aD i (dx L id up n)=if i=id then some (id,up,n,0)else aD i L)∧aS (dx L id up n) id=n∧qZ id (dx L id up n)=dx L id up n∧iy (dx L id up n) id=0∧fq (dx L id up n) id=L:=by
 obtain⟨⟨hf1,hf2⟩,⟨nu,hnu⟩,hno,hle⟩:=jO.1 he
 have hol:dx L id up n=jF (id,up,n,0) L:=by unfold dx;rw[if_pos he]
 have hne:=dZ.1 hno
 have b1:=bN.1 hf1
 obtain⟨u,hu⟩:=h.first
 have h1:id≠1:=fun e=>by rw[e,hu]at hno;cases hno
 have hup:up≠id:=fun e=>by rw[e,hno]at hnu;cases hnu
 have hat:∀i,aD i (dx L id up n)=if i=id then some (id,up,n,0)else aD i L:=fun i=>by rw[hol,ji hne]
 have ab2:aD id (dx L id up n)=some (id,up,n,0):=by rw[hat,if_pos rfl]
 have hc:iy (dx L id up n) id=0:=kD.2 ⟨bN.2 (by omega),h1,_,ab2,rfl⟩
 refine⟨hat,?_,Mj (h.open id up n).good (by unfold aZ;rw[ab2];rfl),hc,?_⟩
 ·rw[gK ab2,hol,vk,vS (h.adr b1.1.1 hno),if_neg hup]
  simp only
  omega
 ·unfold fq MS
  rw[if_pos hc,ab2,hol,EH (x:=(id,up,n,0)) hne]
  conv=>rhs;rw[←List.map_id L]
  apply List.map_congr_left
  intro m hm
  unfold fP
  rw[if_neg (h.adr b1.1.1 hno m hm)]
  rfl
theorem GN{L:List Nd}(id n i:Int):(aD i (aF L id n)).isSome=(aD i L).isSome:=by
 unfold aF
 split
 ·rw[bC (iV _ _)];cases aD i L<;>rfl
 ·rfl
theorem GQ(G:Int→Option Pc)(k:Int)(s:Pc)(i:Int):(dn G k s i).isSome=true↔(G i).isSome=true∨i=k:=by
 by_cases e:i=k
 ·subst e;rw[putG_same];simp
 ·rw[aY _ _ _ e];simp[e]
theorem ab3{G:Int→Option Pc}{Lb:List Nd}{f t:Int}(h1:(oz f&&oz t)=true)(h2:(G f).isSome=true)(h3:(aD t Lb).isSome=true)(h4:G t=none):yS G Lb f t=0:=by
 unfold yS;rw[h1,h2,h3,h4];rfl
theorem Ez(args:Array Value)(W:World):(callFunc 42 args).run Tryz.prog W= .ok (.enter 42 args) W:=enters Tryz.func42 rfl rfl args W
theorem DI(args:Array Value)(W:World):(callFunc 46 args).run Tryz.prog W= .ok (.enter 46 args) W:=enters Tryz.func46 rfl rfl args W
section
variable {W0 w:World} {J:mE} {q c:Nat} {D:Int→Option Sp} {T:List Nd} {Qu:List Int} {Lb:List Nd} {G:Int→Option Pc} {rg:Int→Nat→Int}
abbrev fkJ(rg:Int→Nat→Int)(p ch:Int):Int→Nat→Int:=yV rg ch (((Je rg p).set 0 0).set 1 0)
set_option maxHeartbeats 2000000 in
theorem dK.afR{V:World}{T':List Nd}{dO:List Nd}(h:dK W0 V J q c D T' Qu dO G rg){p ch:Int}(hp:1≤p∧p≤J.n)(hc:1≤ch∧ch≤J.n)(h0:yS G dO p ch=0)(hf:(G p).isSome=true)(hl:(aZ dO p:Int)≤aS dO ch){lb pb:Nat}(hx:V.heap[lb]? =some (.cells (gV J) 37 (0,0)))(hy:V.heap[pb]? =some (.cells #[.int .i64 p] 3 (0,0))):
  Calls Tryz.prog 42 #[.int .i64 ch, .pointer (some ⟨lb,0,none⟩), .pointer (some ⟨pb,0,none⟩)] V fun e w'=>e= .returned (.int .i64 0)∧KeepP V w'∧∃c' D' G' Lb2 kS,dK W0 w' J q c' D' T' Qu Lb2 G' kS∧Lb2=aF dO ch (aZ dO p:Int)∧(∃s,G'=dn G ch s)∧kS=fkJ rg p ch∧Yr D D' p ch∧c'<c:=by
 have FK:=Lib.hid (h.afP p ch h0 hf hl)
 have HX:=Lib.hid hx
 have HY:=Lib.hid hy
 have HP:=Lib.hid (And.intro hp hc)
 obtain⟨-, -, -, -,c4, -⟩:=dA hx
 have y0:V.cell? ⟨pb,0,none⟩=some (.int .i64 p):=by rw[cell_of_row V pb 0 _ _ _ hy];rfl
 clear h h0 hf hl hx hy hp hc
 go_enter Tryz.func42,Tryz.ntmps42
 go_wp2_with fail
 refine FK.out.mono ?_
 rintro e w1 ⟨rfl,⟨c',D',s,h1,hd,hlt⟩,hk⟩
 have P1:=Lib.hid h1
 have DD:=Lib.hid (And.intro hd hlt)
 have X1:=Lib.hid (hk.box HX.out (by decide))
 have Y1:=Lib.hid (hk.box HY.out (by decide))
 have K1:=Lib.hid hk
 have CG:=Lib.hid (P1.out.change HP.out.2 HP.out.1 (Yo w1))
 have y0:w1.cell? ⟨pb,0,none⟩=some (.int .i64 p):=by rw[cell_of_row w1 pb 0 _ _ _ Y1.out];rfl
 clear h1 hd hlt hk c4
 go_wp2_with(refine bP iD rfl (.tmp 1) rfl lb rfl (gV J) X1.out rfl ?_)
 refine CG.out.mono ?_
 rintro e w2 ⟨rfl,h2,hk⟩
 have P2:=Lib.hid h2
 have K2:=Lib.hid (K1.out.trans (KeepP.of hk))
 clear h2 hk
 go_wp2_with fail
 go_ret
 exact⟨rfl,K2.out,c',D',_,_,_,P2.out,rfl,⟨s,rfl⟩,rfl,DD.out⟩
theorem rz{n:Int}{T Lb:List Nd}{p quota needs:Int}(h:dF n T Lb p quota needs=0):(1≤quota∧quota≤256)∧eT T p=1∧quota≤aS Lb p∧needs≤quota∧l6 n T p=0:=by
 unfold dF at h
 by_cases h1:fA T p (mO quota)=0
 ·rw[if_neg (by simpa using h1)]at h
  by_cases h2:eT T p=1
  ·rw[if_neg (by simpa using h2)]at h
   by_cases h3:aS Lb p<quota∨quota<needs
   ·rw[if_pos h3]at h;cases h
   ·rw[if_neg h3]at h
    obtain⟨hq,_⟩:=tZ h1
    exact⟨uf.1 hq,h2,by omega,by omega,h⟩
  ·rw[if_pos h2]at h;cases h
 ·rw[if_pos h1]at h;exact absurd h h1
theorem jN.dom{n:Int}(h:jN n T Qu Lb G){qq:Int}(ht:Tree qq Lb){p quota needs m:Int}(he:dF n T Lb p quota needs=0)(s:Pc):(∀i,(aD i (aF (dx Lb (aG 1 T) p quota) (aG 1 T) m)).isSome=true↔(aD i Lb).isSome=true∨i=aG 1 T)∧∀i,(dn G (aG 1 T) s i).isSome=true↔(G i).isSome=true∨i=aG 1 T:=by
 obtain⟨h1,h2,h3,h4,h5⟩:=rz he
 obtain⟨b1, -⟩:=h.born h2 h1 h3 h5
 obtain⟨o1, -⟩:=AU ht b1
 refine⟨fun i=>?_,GQ G _ s⟩
 rw[GN,o1]
 by_cases e:i=aG 1 T
 ·rw[if_pos e];simp[e]
 ·rw[if_neg e];simp[e]
abbrev GU:Obj:= .cells #[.pointer none, .pointer none, .int .i64 0, .pointer none, .pointer none, .pointer none] 37 (0,0)
def FkR(J:mE)(T Lb:List Nd)(p quota:Int)(D:Int→Option Sp)(G:Int→Option Pc)(rg:Int→Nat→Int)(c c':Nat)(D':Int→Option Sp)(G':Int→Option Pc)(dO:List Nd)(kS:Int→Nat→Int):Prop:=
 dF J.n T Lb p quota (aZ Lb p:Int)=0∧dO=aF (dx Lb (aG 1 T) p quota) (aG 1 T) (aZ Lb p:Int)∧(∃s,G'=dn G (aG 1 T) s)∧kS=fkJ rg p (aG 1 T)∧Yr D D' p (aG 1 T)∧c'<c
theorem dY.afS(h:dY W0 w J q c D T Qu Lb G rg){p quota:Int}(hi:I64 p){lb pb:Nat}(hx:w.heap[lb]? =some (.cells (gV J) 37 (0,0)))(hy:w.heap[pb]? =some (.cells #[.int .i64 p] 3 (0,0))):
  Calls Tryz.prog 40 #[Gx J, .int .i64 p, .int .i64 quota, .int .i64 (aZ Lb p:Int), .func (.func 42) #[] #[.pointer (some ⟨lb,0,none⟩), .pointer (some ⟨pb,0,none⟩)]] w fun e w'=>e= .returned (.tuple #[.int .i64 (tY (dF J.n T Lb p quota (aZ Lb p:Int)) T), .int .i64 (dF J.n T Lb p quota (aZ Lb p:Int))])∧KeepP w w'∧((dF J.n T Lb p quota (aZ Lb p:Int)≠0∧dY W0 w' J q c D T Qu Lb G rg)∨(dF J.n T Lb p quota (aZ Lb p:Int)=0∧∃c' D' G' dO kS,dY W0 w' J q c' D' (jd J.n T p) (Qu++[aG 1 T]) dO G' kS∧FkR J T Lb p quota D G rg c c' D' G' dO kS)):=by
 refine h.bear hi Ez (R:=FkR J T Lb p quota D G rg c) (fun he V hk hP=>?_) fun c' D' G' dO kS hr=>?_
 ·obtain⟨h1,h2,h3,h4,h5⟩:=rz he
  obtain⟨b1,b2,b3,b4,b5,b6,b7,b8,b9⟩:=h.fit.born h2 h1 h3 h5
  obtain⟨o1,o2,o3,o4,o5⟩:=AU h.pc.tree b1
  obtain⟨s0,s1,s2,_⟩:=xD h.fit.good h5
  have hu:aZ (dx Lb (aG 1 T) p quota) p=aZ Lb p:=Gg _ _ _ _
  have hpn:1≤p∧p≤J.n:=dh.num h.fit.good (Or.inl h2)
  refine(hP.afR hpn s1 (ab3 (by rw[uR.2 b5,uR.2 b4];rfl) b8 (by rw[o1,if_pos rfl];rfl) b7) b8 (by rw[hu,o2];exact h4) (hk.box hx (by decide)) (hk.box hy (by decide))).mono ?_
  rintro e w' ⟨rfl,hk',c',D',G',Lb2,kS,k1,k2,k3,k4,k5,k6⟩
  rw[hu]at k2
  exact⟨rfl,hk',c',D',G',Lb2,kS,k1,he,k2,k3,k4,k5,k6⟩
 ·obtain⟨he,rfl,⟨s,rfl⟩,_⟩:=hr
  exact h.fit.dom h.pc.tree he s
set_option maxHeartbeats 4000000 in
theorem dY.fork(h:dY W0 w J q c D T Qu Lb G rg){p quota:Int}(hi:I64 p):
  Calls Tryz.prog 11 #[.pointer (some ⟨J.ps,0,none⟩), .int .i64 p, .int .i64 quota] w fun e w'=>e= .returned (.tuple #[.int .i64 (tY (dF J.n T Lb p quota (aZ Lb p:Int)) T), .int .i64 (dF J.n T Lb p quota (aZ Lb p:Int))])∧KeepP w w'∧((dF J.n T Lb p quota (aZ Lb p:Int)≠0∧dY W0 w' J q c D T Qu Lb G rg)∨(dF J.n T Lb p quota (aZ Lb p:Int)=0∧∃c' D' G' dO kS,dY W0 w' J q c' D' (jd J.n T p) (Qu++[aG 1 T]) dO G' kS∧FkR J T Lb p quota D G rg c c' D' G' dO kS)):=by
 have pE:∀(fn:Fn) (first cap:Array Value) (w:World),(Instr.makeFunc fn first cap).run Tryz.prog w= .ok (.func fn first cap) w:=fun _ _ _ _=>rfl
 have B1:=Lib.hid (Below.alloc (Below.refl w.heap.size w) (Nat.le_refl _) (.cells #[.int .i64 p] 3))
 have Y1:=Lib.hid (heap_alloc_new w (.cells #[.int .i64 p] 3))
 have MD:=Lib.hid (oq (below_block B1.out h.box))
 have H:=Lib.hid h
 obtain⟨us,hus⟩:∃us:Int,us=(aZ Lb p:Int):=⟨_,rfl⟩
 have CH:=Lib.hid (fun V (hb:Below w.heap.size w V)=>(h.pc.step hb).ab0 p)
 rw[←hus]at CH
 have BF:=Lib.hid (fun V (hb:Below w.heap.size w V) lb pb hx hy=>(h.step hb).afS (quota:=quota) hi (lb:=lb) (pb:=pb) hx hy)
 rw[←hus]at BF ⊢
 obtain⟨be,hbe⟩:∃be,be=dF J.n T Lb p quota us:=⟨_,rfl⟩
 rw[←hbe]at BF ⊢
 obtain⟨cr,hcr⟩:∃cr,cr=tY be T:=⟨_,rfl⟩
 rw[←hcr]at BF ⊢
 clear h hus hbe hcr
 go_enter Tryz.func11,Tryz.ntmps11
 go_wp2_with fail
 refine MD.out.mono ?_
 rintro e w2 ⟨rfl,hb⟩
 have B2:=Lib.hid (B1.out.trans (hb.mono B1.out.size))
 have Y2:=Lib.hid (below_block hb Y1.out)
 have Z2:=Lib.hid (heap_alloc_new w2 GU)
 clear hb
 go_wp2_with(refine aH iD rfl (.tmp 8) (.tmp 10) rfl w2.heap.size (gV J) rfl rfl _ Z2.out rfl rfl (Gz J) ?_)
 obtain⟨w3,hw3⟩:∃w3,w3=(w2.alloc GU).setRow w2.heap.size (gV J):=⟨_,rfl⟩
 have B3:Hid (Below w.heap.size w w3):=Lib.hid (by rw[hw3];exact below_setRow (B2.out.alloc B2.out.size GU) B2.out.size (gV J))
 have X3:Hid (w3.heap[w2.heap.size]? =some (.cells (gV J) 37 (0,0))):=Lib.hid (by rw[hw3];exact setRow_heap _ _ _ _ _ _ Z2.out)
 have Y3:Hid (w3.heap[w.heap.size]? =some (.cells #[.int .i64 p] 3 (0,0))):=Lib.hid (by rw[hw3];exact bU _ _ (Nat.ne_of_lt (lt_of_block Y2.out)) ((heap_alloc_old _ _ (lt_of_block Y2.out)).trans Y2.out))
 rw[←hw3]
 clear hw3
 have LC:=Lib.hid (fun V (hb:KeepP w3 V)=>And.intro (dA (hb.box X3.out (by decide))) (show V.cell? ⟨w.heap.size,0,none⟩=some (.int .i64 p) by rw[cell_of_row V w.heap.size 0 _ _ _ (hb.box Y3.out (by decide))];rfl))
 obtain⟨⟨c0,c1,c2,c3,c4,c5⟩,y0⟩:=LC.out w3 (KeepP.refl _)
 have LC:Hid (∀V,KeepP w3 V→V.cell? ⟨w2.heap.size,0,none⟩=some (.pointer (some ⟨J.tb,0,none⟩))∧V.cell? ⟨w2.heap.size,1,none⟩=some (.pointer (some ⟨J.I.X.mp,0,none⟩))∧V.cell? ⟨w2.heap.size,2,none⟩=some (.int .i64 (J.tr:Int))∧V.cell? ⟨w2.heap.size,3,none⟩=some (.pointer (some ⟨J.I.bb,0,none⟩))∧V.cell? ⟨w2.heap.size,4,none⟩=some (.pointer (some ⟨J.I.ss,0,none⟩))∧V.cell? ⟨w2.heap.size,5,none⟩=some (.pointer (some ⟨J.qb,0,none⟩))∧V.cell? ⟨w.heap.size,0,none⟩=some (.int .i64 p)):=Lib.hid fun V hb=>by
  obtain⟨⟨c0,c1,c2,c3,c4,c5⟩,y0⟩:=LC.out V hb
  exact⟨c0,c1,c2,c3,c4,c5,y0⟩
 have CH:Hid (∀V,Below w3.heap.size w3 V→Calls Tryz.prog 41 #[.agg #[.pointer (some ⟨J.tb,0,none⟩), .pointer (some ⟨J.I.X.mp,0,none⟩), .int .i64 (J.tr:Int), .pointer (some ⟨J.I.bb,0,none⟩), .pointer (some ⟨J.I.ss,0,none⟩), .pointer (some ⟨J.qb,0,none⟩)], .int .i64 p] V fun e w'=>e= .returned (.int .i64 us)∧Below V.heap.size V w'):=Lib.hid fun V hb=>CH.out V (B3.out.trans (hb.mono B3.out.size))
 have BF:Hid (∀V,Below w3.heap.size w3 V→Calls Tryz.prog 40 #[.agg #[.pointer (some ⟨J.tb,0,none⟩), .pointer (some ⟨J.I.X.mp,0,none⟩), .int .i64 (J.tr:Int), .pointer (some ⟨J.I.bb,0,none⟩), .pointer (some ⟨J.I.ss,0,none⟩), .pointer (some ⟨J.qb,0,none⟩)], .int .i64 p, .int .i64 quota, .int .i64 us, .func (.func 42) #[] #[.pointer (some ⟨w2.heap.size,0,none⟩), .pointer (some ⟨w.heap.size,0,none⟩)]] V fun e w'=>e= .returned (.tuple #[.int .i64 cr, .int .i64 be])∧KeepP w3 w'∧KeepP w w'∧((be≠0∧dY W0 w' J q c D T Qu Lb G rg)∨(be=0∧∃c' D' G' dO kS,dY W0 w' J q c' D' (jd J.n T p) (Qu++[aG 1 T]) dO G' kS∧FkR J T Lb p quota D G rg c c' D' G' dO kS))):=Lib.hid fun V hb=>(BF.out V (B3.out.trans (hb.mono B3.out.size)) w2.heap.size w.heap.size (below_block hb X3.out) (below_block hb Y3.out)).mono fun e w' ⟨h1,h2,h3⟩=>⟨h1,(KeepP.below hb).trans h2,(KeepP.below (B3.out.trans (hb.mono B3.out.size))).trans h2,h3⟩
 go_region_held3 (fun V=>V.cell? ⟨w2.heap.size,0,none⟩=some (.pointer (some ⟨J.tb,0,none⟩))∧V.cell? ⟨w2.heap.size,1,none⟩=some (.pointer (some ⟨J.I.X.mp,0,none⟩))∧V.cell? ⟨w2.heap.size,2,none⟩=some (.int .i64 (J.tr:Int))∧V.cell? ⟨w2.heap.size,3,none⟩=some (.pointer (some ⟨J.I.bb,0,none⟩))∧V.cell? ⟨w2.heap.size,4,none⟩=some (.pointer (some ⟨J.I.ss,0,none⟩))∧V.cell? ⟨w2.heap.size,5,none⟩=some (.pointer (some ⟨J.qb,0,none⟩))∧V.cell? ⟨w.heap.size,0,none⟩=some (.int .i64 p)) (first
   |with_reducible exact LC.out w9 (KeepP.below B9.out)
   |with_reducible exact LC.out w10 K10.out
   |with_reducible exact LC.out _ (KeepP.below (Below.refl _ _).drew)
   |with_reducible exact LC.out _ (KeepP.refl _))
  (first
   |((go_at_call 41;with_reducible refine(CH.out _ (Below.refl _ _).drew).mono ?_);rintro e w9 ⟨rfl,hb⟩;have B9:Hid (Below w3.heap.size w3 w9):=Lib.hid ((Below.refl _ _).drew.trans hb);clear hb)
   |((go_at_call 40;with_reducible refine(BF.out w9 B9.out).mono ?_);rintro e w10 ⟨rfl,hk,hp⟩;have P9:=Lib.hid hp;have K10:=Lib.hid hk;clear hp hk))
 all_goals
  go_wp2_with fail
  go_ret2
  exact⟨rfl,P9.out⟩
end
end
section
theorem ab4{G:Int→Option Pc}{Lb:List Nd}{i:Int}(h1:oz i=true)(h2:(aD i Lb).isSome=true)(h3:G i=none)(h4:1≤aS Lb i):jg G Lb i=0:=by
 unfold jg
 rw[if_pos h1,if_neg (by intro e;rw[e]at h2;cases h2),h3,if_neg (by simp),if_neg (by omega)]
section
variable {W0 w:World} {J:mE} {q c:Nat} {D:Int→Option Sp} {T:List Nd} {Qu:List Int} {Lb:List Nd} {G:Int→Option Pc} {rg:Int→Nat→Int}
abbrev spL(a:Int):List Int:=[0,a,0,0,0,0,0,0]
theorem adW{a:Int}(ha:0≤a∧a<4294967296):∀k,0≤(spL a).getD k 0∧(spL a).getD k 0<4294967296:=fun k=>by
 rcases k with _|_|_|_|_|_|_|_|k<;>simp[spL]<;>omega
theorem dK.afT(h:dK W0 w J q c D T Qu Lb G rg){i:Int}(hp:1≤i∧i≤J.n)(he:jg G Lb i=0){R:List Int}(hR:R.length=8)(hw:∀k,0≤R.getD k 0∧R.getD k 0<4294967296):Calls Tryz.prog 47 #[Gx J, .int .i64 i, .agg (ah R)] w fun e w'=>e= .returned (.int .i64 0)∧KeepP w w'∧∃c' s,dK W0 w' J q c' (aV D i (some qP)) T Qu (aF Lb i 1) (dn G i s) (yV rg i R):=
 GJ hR (A:=fun w'=>KeepP w w'∧∃c' s,dK W0 w' J q c' (aV D i (some qP)) T Qu (aF Lb i 1) (dn G i s) rg)
  (fun _ hb=>((h.step hb).zO he).mono fun _ _ ⟨h1,h2,h3⟩=>⟨h1,h2,(KeepP.below hb).trans (KeepP.of h2),h3⟩)
  (fun _ ⟨hk,c',s,h1⟩=>(h1.save hp R hR hw).mono fun _ _ ⟨he,h2,hk2⟩=>⟨he,hk.trans (KeepP.of hk2),c',s,h2⟩)
set_option maxHeartbeats 2000000 in
theorem dK.adX(h:dK W0 w J q c D T Qu Lb G rg){ch a:Int}(hc:1≤ch∧ch≤J.n)(ha:0≤a∧a<4294967296)(h0:jg G Lb ch=0){lb ab:Nat}(hx:w.heap[lb]? =some (.cells (gV J) 37 (0,0)))(hy:w.heap[ab]? =some (.cells #[.int .u32 a] 25 (0,0))):
  Calls Tryz.prog 46 #[.int .i64 ch, .pointer (some ⟨lb,0,none⟩), .pointer (some ⟨ab,0,none⟩)] w fun e w'=>e= .returned (.int .i64 0)∧KeepP w w'∧∃c' s,dK W0 w' J q c' (aV D ch (some qP)) T Qu (aF Lb ch 1) (dn G ch s) (yV rg ch (spL a)):=by
 have OP:=Lib.hid (h.afT hc h0 (R:=spL a) rfl (adW ha))
 have HX:=Lib.hid hx
 have y0:w.cell? ⟨ab,0,none⟩=some (.int .u32 a):=by rw[cell_of_row w ab 0 _ _ _ hy];rfl
 clear h h0 hc ha hx hy
 go_enter Tryz.func46,Tryz.ntmps46
 go_wp2_with(refine bP iD rfl (.tmp 1) rfl lb rfl (gV J) HX.out rfl ?_)
 refine OP.out.mono ?_
 rintro e w2 ⟨rfl,hp⟩
 have P2:=Lib.hid hp
 clear hp
 go_wp2_with fail
 go_ret
 exact⟨rfl,P2.out⟩
def SpR(J:mE)(T Lb:List Nd)(p quota a:Int)(D:Int→Option Sp)(G:Int→Option Pc)(rg:Int→Nat→Int)(D':Int→Option Sp)(G':Int→Option Pc)(dO:List Nd)(kS:Int→Nat→Int):Prop:=
 dF J.n T Lb p quota 1=0∧dO=aF (dx Lb (aG 1 T) p quota) (aG 1 T) 1∧(∃s,G'=dn G (aG 1 T) s)∧kS=yV rg (aG 1 T) (spL a)∧D'=aV D (aG 1 T) (some qP)
theorem dY.afU(h:dY W0 w J q c D T Qu Lb G rg){p quota a:Int}(hi:I64 p)(ha:0≤a∧a<4294967296){lb ab:Nat}(hx:w.heap[lb]? =some (.cells (gV J) 37 (0,0)))(hy:w.heap[ab]? =some (.cells #[.int .u32 a] 25 (0,0))):
  Calls Tryz.prog 40 #[Gx J, .int .i64 p, .int .i64 quota, .int .i64 1, .func (.func 46) #[] #[.pointer (some ⟨lb,0,none⟩), .pointer (some ⟨ab,0,none⟩)]] w fun e w'=>e= .returned (.tuple #[.int .i64 (tY (dF J.n T Lb p quota 1) T), .int .i64 (dF J.n T Lb p quota 1)])∧KeepP w w'∧((dF J.n T Lb p quota 1≠0∧dY W0 w' J q c D T Qu Lb G rg)∨(dF J.n T Lb p quota 1=0∧∃c' D' G' dO kS,dY W0 w' J q c' D' (jd J.n T p) (Qu++[aG 1 T]) dO G' kS∧SpR J T Lb p quota a D G rg D' G' dO kS)):=by
 refine h.bear hi DI (R:=fun _=>SpR J T Lb p quota a D G rg) (fun he V hk hP=>?_) fun c' D' G' dO kS hr=>?_
 ·obtain⟨h1,h2,h3,h4,h5⟩:=rz he
  obtain⟨b1,b2,b3,b4,b5,b6,b7,b8,b9⟩:=h.fit.born h2 h1 h3 h5
  obtain⟨o1,o2,o3,o4,o5⟩:=AU h.pc.tree b1
  obtain⟨s0,s1,s2,_⟩:=xD h.fit.good h5
  refine(hP.adX s1 ha (ab4 (uR.2 b4) (by rw[o1,if_pos rfl];rfl) b7 (by rw[o2];exact h1.1)) (hk.box hx (by decide)) (hk.box hy (by decide))).mono ?_
  rintro e w' ⟨rfl,hk',c',s,k1⟩
  exact⟨rfl,hk',c',_,_,_,_,k1,he,rfl,⟨s,rfl⟩,rfl,rfl⟩
 ·obtain⟨he,rfl,⟨s,rfl⟩,_⟩:=hr
  exact h.fit.dom h.pc.tree he s
set_option maxHeartbeats 4000000 in
theorem dY.spawn(h:dY W0 w J q c D T Qu Lb G rg){p quota a:Int}(hi:I64 p)(ha:0≤a∧a<4294967296):
  Calls Tryz.prog 12 #[.pointer (some ⟨J.ps,0,none⟩), .int .i64 p, .int .i64 quota, .int .u32 a] w fun e w'=>e= .returned (.tuple #[.int .i64 (tY (dF J.n T Lb p quota 1) T), .int .i64 (dF J.n T Lb p quota 1)])∧KeepP w w'∧((dF J.n T Lb p quota 1≠0∧dY W0 w' J q c D T Qu Lb G rg)∨(dF J.n T Lb p quota 1=0∧∃c' D' G' dO kS,dY W0 w' J q c' D' (jd J.n T p) (Qu++[aG 1 T]) dO G' kS∧SpR J T Lb p quota a D G rg D' G' dO kS)):=by
 have pE:∀(fn:Fn) (first cap:Array Value) (w:World),(Instr.makeFunc fn first cap).run Tryz.prog w= .ok (.func fn first cap) w:=fun _ _ _ _=>rfl
 have B1:=Lib.hid (Below.alloc (Below.refl w.heap.size w) (Nat.le_refl _) (.cells #[.int .u32 a] 25))
 have Y1:=Lib.hid (heap_alloc_new w (.cells #[.int .u32 a] 25))
 have MD:=Lib.hid (oq (below_block B1.out h.box))
 have BF:=Lib.hid (fun V (hb:Below w.heap.size w V) lb ab hx hy=>(h.step hb).afU (quota:=quota) hi ha (lb:=lb) (ab:=ab) hx hy)
 obtain⟨be,hbe⟩:∃be,be=dF J.n T Lb p quota 1:=⟨_,rfl⟩
 rw[←hbe]at BF ⊢
 obtain⟨cr,hcr⟩:∃cr,cr=tY be T:=⟨_,rfl⟩
 rw[←hcr]at BF ⊢
 clear h ha hbe hcr
 go_enter Tryz.func12,Tryz.ntmps12
 go_wp2_with fail
 refine MD.out.mono ?_
 rintro e w2 ⟨rfl,hb⟩
 have B2:=Lib.hid (B1.out.trans (hb.mono B1.out.size))
 have Y2:=Lib.hid (below_block hb Y1.out)
 have Z2:=Lib.hid (heap_alloc_new w2 GU)
 have B3:=Lib.hid (below_setRow (B2.out.alloc B2.out.size GU) B2.out.size (gV J))
 have X3:=Lib.hid (setRow_heap _ _ _ (gV J) _ _ Z2.out)
 have Y3:=Lib.hid (bU _ (gV J) (Nat.ne_of_lt (lt_of_block Y2.out)) ((heap_alloc_old _ GU (lt_of_block Y2.out)).trans Y2.out))
 clear hb
 go_wp2_with(first|(refine aH iD rfl (.tmp 10) (.tmp 12) rfl w2.heap.size (gV J) rfl rfl _ Z2.out rfl rfl (Gz J) ?_)|(refine bP iD rfl (.tmp 10) rfl w2.heap.size rfl (gV J) X3.out rfl ?_))
 refine(BF.out _ B3.out _ _ X3.out Y3.out).mono ?_
 rintro e w4 ⟨rfl,hk,hp⟩
 have P4:=Lib.hid hp
 have K4:=Lib.hid ((KeepP.below B3.out).trans hk)
 clear hp hk
 go_wp2_with fail
 go_ret2
 exact⟨rfl,K4.out,P4.out⟩
end
end
section
def rX(rg:Int→Nat→Int)(R:List Rp):Int→Nat→Int:=R.foldl (fun g r=>yV g r.1 (Uj r (Je g r.1))) rg
theorem Uo(rg:Int→Nat→Int)(R:List Rp)(r:Rp):rX rg (R++[r])=yV (rX rg R) r.1 (Uj r (Je (rX rg R) r.1)):=by unfold rX;rw[List.foldl_append];rfl
structure kX(x:Nat)(w w':World):Prop where
 size:w.heap.size≤w'.heap.size
 box:∀{k:Nat} {cs:Array Value} {t:TypeId} {z:Nat×Nat},w.heap[k]? =some (.cells cs t z)→Oy t→k≠x→w'.heap[k]? =some (.cells cs t z)
theorem kX.refl(x:Nat)(w:World):kX x w w:=⟨Nat.le_refl _,fun h _ _=>h⟩
theorem kX.trans{x:Nat}{a b c:World}(h:kX x a b)(k:kX x b c):kX x a c:=⟨Nat.le_trans h.size k.size,fun hk ht hx=>k.box (h.box hk ht hx) ht hx⟩
theorem kX.of{x:Nat}{w w':World}(h:KeepP w w'):kX x w w':=⟨h.size,fun hk ht _=>h.box hk ht⟩
theorem Yt:∀(L:List Rp) (i:Nat),i<L.length→(Ac L)[i*3]? =some (.int .i64 (L.getD i default).1)∧(Ac L)[i*3+1]? =some (.int .i64 (L.getD i default).2.1)∧(Ac L)[i*3+2]? =some (.int .u32 (L.getD i default).2.2)
 |x::r,0,_=>by simp[Ac]
 |x::r,i+1,h=>by
  have ih:=Yt r i (by simpa using h)
  have e:Ac (x::r)=[.int .i64 x.1, .int .i64 x.2.1, .int .u32 x.2.2]++Ac r:=by simp[Ac]
  rw[e,show(i+1)*3=i*3+3 by omega]
  simpa[List.getElem?_append_right]using ih
theorem afV{w:World}{base:Nat}{v:Value}{L:List Rp}(h:w.ownsRow base 194 3 v L.length (Ac L)):∃a cp,v= .slice a L.length cp∧L.length≤maxLen∧(L=[]∨∃g cs,a=some ⟨g,0,none⟩∧w.heap[g]? =some (.cells cs 194 (0,0))∧∀V:World,V.heap[g]? =some (.cells cs 194 (0,0))→∀i,i<L.length→V.cell? ⟨g,i*3,none⟩=some (.int .i64 (L.getD i default).1)∧V.cell? ⟨g,i*3+1,none⟩=some (.int .i64 (L.getD i default).2.1)∧V.cell? ⟨g,i*3+2,none⟩=some (.int .u32 (L.getD i default).2.2)):=by
 rcases h.2 with⟨rfl,h0⟩|⟨g,cap,cur,rfl,hb,hgg,hn,hm,hs,ht⟩
 ·exact⟨none,0,by rw[h0],by omega,Or.inl (List.eq_nil_of_length_eq_zero h0)⟩
 ·refine⟨_,_,rfl,by omega,Or.inr ⟨g,cur,rfl,hgg,fun V hV i hi=>?_⟩⟩
  have h':V.ownsRow base 194 3 (.slice (some ⟨g,0,none⟩) L.length cap) L.length (Ac L):=⟨h.1,Or.inr ⟨g,cap,cur,rfl,hb,hV,hn,hm,hs,ht⟩⟩
  obtain⟨a0,a1,a2⟩:=Yt L i hi
  have b0:=h'.cells (g:=g) rfl _ _ a0
  have b1:=h'.cells (g:=g) rfl _ _ a1
  have b2:=h'.cells (g:=g) rfl _ _ a2
  rw[Addr.add_mid,Nat.zero_add]at b0 b1 b2
  exact⟨b0,b1,b2⟩
section
variable {W0 w:World} {J:mE} {q c:Nat} {D:Int→Option Sp} {T:List Nd} {Lb:List Nd} {G:Int→Option Pc} {rg:Int→Nat→Int}
set_option maxHeartbeats 4000000 in
theorem Mq{Qf:List Rp→List Int}(h:dK W0 w J q c D T (Qf []) Lb G rg){R:List Rp}(hR:∀r∈R,OkR J.n r){v:Value}{base:Nat}(hv:w.ownsRow base 194 3 v R.length (Ac R)){k:Nat}{caps:Array Value}(hent:∀(args:Array Value) (W:World),(callFunc k args).run Tryz.prog W= .ok (.enter k args) W){x:Nat}(hx:x<w.heap.size)(hxk:∀cs z,w.heap[x]? ≠some (.cells cs 194 z)){Ex:List Rp→World→Prop}(h0:Ex [] w)(hEx:∀pre V V',KeepP V V'→Ex pre V→Ex pre V')
  (TL:∀pre r V,r∈R→kX x w V→dK W0 V J q c D T (Qf pre) Lb G (rX rg (pre++[r]))→Ex pre V→Calls Tryz.prog k (#[.int .i64 r.1]++caps) V fun e w'=>e= .returned (.tuple #[])∧kX x V w'∧dK W0 w' J q c D T (Qf (pre++[r])) Lb G (rX rg (pre++[r]))∧Ex (pre++[r]) w'):
  Calls Tryz.prog 56 #[Gx J,v, .func (.func k) #[] caps] w fun e w'=>e= .returned (.tuple #[])∧kX x w w'∧dK W0 w' J q c D T (Qf R) Lb G (rX rg R)∧Ex R w':=by
 have pE:∀(fn:Fn) (first cap:Array Value) (w:World),(Instr.makeFunc fn first cap).run Tryz.prog w= .ok (.func fn first cap) w:=fun _ _ _ _=>rfl
 obtain⟨a,cp,rfl,hmx,hg⟩:=afV hv
 have X1:=Lib.hid (heap_alloc_new w (.cells (gV J) 37))
 have B1:=Lib.hid (Below.alloc (Below.refl w.heap.size w) (Nat.le_refl _) (.cells (gV J) 37))
 have H1:=Lib.hid (h.step B1.out)
 have E1:=Lib.hid (hEx _ _ _ (KeepP.below B1.out) h0)
 have K1:Hid (kX x w (w.alloc (.cells (gV J) 37))):=Lib.hid (kX.of (KeepP.below B1.out))
 have HG:=Lib.hid hg
 have TLH:=Lib.hid TL
 have EXH:=Lib.hid hEx
 have RH:=Lib.hid hR
 have NX:=Lib.hid (show w.heap.size≠x by omega)
 have XK:=Lib.hid (And.intro hx hxk)
 obtain⟨n,hn⟩:∃n,n=R.length:=⟨_,rfl⟩
 have HN:=Lib.hid hn
 have ahX:n≤maxLen:=by omega
 rw[←hn]
 unfold maxLen at ahX
 clear h hR hv hx hxk h0 hEx TL hmx hg hn
 go_enter Tryz.func56,Tryz.ntmps56
 go_wp2_with fail
 obtain⟨w1,hw1⟩:∃w1,w1=w.alloc (.cells (gV J) 37):=⟨_,rfl⟩
 rw[←hw1]at X1 H1 E1 K1 ⊢
 clear hw1 B1
 go_loopw [10] (fun s wr=>∃k:Nat,s= .int .i64 (k:Int)∧k≤n∧dK W0 wr J q c D T (Qf (R.take k)) Lb G (rX rg (R.take k))∧Ex (R.take k) wr∧kX x w1 wr) (fun s _=>(n-(intOf s).toNat))
 case atStart=>exact⟨0,rfl,Nat.zero_le _,by simpa[rX]using H1.out,by simpa using E1.out,kX.refl _ _⟩
 case round=>
  obtain⟨k',rfl,hk,h1,he,hK⟩:=hrel
  have H2:=Lib.hid h1
  have E2:=Lib.hid he
  have K2:=Lib.hid hK
  clear h1 he hK
  have X2:=Lib.hid (K2.out.box X1.out (by decide) NX.out)
  by_cases hlt:k'<n
  ·obtain⟨g,cs,rfl,hg1,hg2⟩:=HG.out.resolve_left (by intro e;have:=HN.out;rw[e]at this;simp at this;omega)
   have hgx:g≠x:=fun e=>XK.out.2 _ _ (by rw[←e];exact hg1)
   have hgr:=(K1.out.trans K2.out).box hg1 (by decide) hgx
   obtain⟨c0,c1,c2⟩:=hg2 wr hgr k' (by have:=HN.out;omega)
   have hmem:R.getD k' default∈R:=by rw[List.getD_eq_getElem?_getD,List.getElem?_eq_getElem (by have:=HN.out;omega)];simp
   have OK:=Lib.hid (And.intro hmem (RH.out _ hmem))
   have TK:Hid (R.take (k'+1)=R.take k'++[R.getD k' default]):=Lib.hid (by rw[List.take_add_one,List.getD_eq_getElem?_getD,List.getElem?_eq_getElem (show k'<R.length by have:=HN.out;omega)];rfl)
   generalize R.getD k' default=r at c0 c1 c2 OK TK
   obtain⟨r0,r1,r2⟩:=r
   simp only at c0 c1 c2
   clear hg1 hg2 hgr hmem
   have B3:=Lib.hid (Below.alloc (Below.refl wr.heap.size wr) (Nat.le_refl _) (rpO (r0,r1,r2)))
   have R3:=Lib.hid (heap_alloc_new wr (rpO (r0,r1,r2)))
   have X3:=Lib.hid (below_block B3.out X2.out)
   have CG:=Lib.hid ((H2.out.step B3.out).change OK.out.2.1 OK.out.2.1 (Uk (r:=(r0,r1,r2)) OK.out.2.2 R3.out))
   go_wp2_with(refine bP iD rfl (.tmp 3) rfl w.heap.size rfl (gV J) X3.out rfl ?_)
   refine CG.out.mono ?_
   rintro e w4 ⟨rfl,h4,hk4⟩
   have K4:=Lib.hid ((KeepP.below B3.out).trans (KeepP.of hk4))
   have R4:=Lib.hid (hk4.box R3.out (by decide))
   have P4:Hid (dK W0 w4 J q c D T (Qf (R.take k')) Lb G (rX rg (R.take k'++[(r0,r1,r2)]))):=Lib.hid (by rw[Uo];exact h4)
   have TC:=Lib.hid (TLH.out _ _ w4 OK.out.1 ((K1.out.trans K2.out).trans (kX.of K4.out)) P4.out (EXH.out _ _ _ K4.out E2.out))
   have z0:w4.cell? ⟨wr.heap.size,0,none⟩=some (.int .i64 r0):=by rw[cell_of_row w4 wr.heap.size 0 _ _ _ R4.out];rfl
   clear h4 hk4 c0 c1 c2
   go_wp2_with fail
   refine TC.out.mono ?_
   rintro e w5 ⟨rfl,hk5,h5,he5⟩
   have K5:=Lib.hid ((K2.out.trans (kX.of K4.out)).trans hk5)
   have P5:=Lib.hid (And.intro h5 he5)
   clear hk5 h5 he5 z0
   go_wp2_with fail
   go_roundw
   case rel=>exact⟨k'+1,by go_num,by omega,by rw[TK.out];exact P5.out.1,by rw[TK.out];exact P5.out.2,K5.out⟩
   case measure=>simp[intOf];omega
  ·obtain rfl:k'=n:=by omega
   have e:R.take k'=R:=List.take_of_length_le (by have:=HN.out;omega)
   rw[e]at H2 E2
   go_wp2_with fail
   go_end0
   exact⟨rfl,K1.out.trans K2.out,H2.out,E2.out⟩
end
end
section
theorem ab5{q:Int}{L:List Nd}(h:Tree q L){p:Int}(h1:p≠1)(ha:(aD p L).isSome=true):iy (qZ p L) p=0∧∀i,(aD i (fq (qZ p L) p)).isSome=true↔(aD i L).isSome=true∧i≠p:=by
 obtain⟨x,hx⟩:=Option.isSome_iff_exists.1 ha
 have hc:∀i,aD i (qZ p L)=(aD i L).map fun x=>if x.1=p then(x.1,x.2.1,x.2.2.1,0)else x:=fun i=>by
  unfold qZ
  exact bC (f:=fun x=>if x.1=p then(x.1,x.2.1,x.2.2.1,0)else x) (fun x=>by split<;>rfl) i L
 have hb:=h.good.ok x (aj hx).1
 have hp:=(aj hx).2
 dsimp only[MR]at hb
 have e0:iy (qZ p L) p=0:=kD.2 ⟨bN.2 (by omega),h1,(x.1,x.2.1,x.2.2.1,0),by rw[hc,hx];simp[hp],rfl⟩
 refine⟨e0,fun i=>?_⟩
 unfold fq
 rw[if_pos e0,bC (kC _ _),iG,hc]
 by_cases e:i=p
 ·simp[e]
 ·rw[if_neg e]
  cases aD i L<;>simp[e]
theorem GV(G:Int→Option Pc)(p i:Int):(tT G p i).isSome=true↔(G i).isSome=true∧i≠p:=by
 by_cases e:i=p
 ·subst e;rw[nD];simp
 ·rw[iT _ _ e];simp[e]
theorem EA(args:Array Value)(W:World):(callFunc 57 args).run Tryz.prog W= .ok (.enter 57 args) W:=enters Tryz.func57 rfl rfl args W
section
variable {W0 w:World} {J:mE} {q c:Nat} {D:Int→Option Sp} {T:List Nd} {Qu:List Int} {Lb:List Nd} {G:Int→Option Pc} {rg:Int→Nat→Int}
theorem dK.afW(h:dK W0 w J q c D T Qu Lb G rg)(r:Int){lb:Nat}(hx:w.heap[lb]? =some (.cells (gV J) 37 (0,0))):Calls Tryz.prog 57 #[.int .i64 r, .pointer (some ⟨lb,0,none⟩)] w fun e w'=>e= .returned (.tuple #[])∧KeepP w w'∧dK W0 w' J q c D T (jS Qu r) Lb G rg:=by
 have PU:=Lib.hid (h.push r)
 obtain⟨-, -, -, -, -,c5⟩:=dA hx
 clear h hx
 go_enter Tryz.func57,Tryz.ntmps57
 go_wp2_with fail
 refine PU.out.mono ?_
 rintro e w1 ⟨rfl,h1,hk⟩
 have P1:=Lib.hid (And.intro hk h1)
 clear h1 hk
 go_wp2_with fail
 go_end0
 exact⟨rfl,P1.out⟩
def psh(Q:List Int)(R:List Rp):List Int:=R.foldl (fun Q r=>jS Q r.1) Q
theorem Yu(Q:List Int)(R:List Rp)(r:Rp):psh Q (R++[r])=jS (psh Q R) r.1:=by unfold psh;rw[List.foldl_append];rfl
structure ExR(J:mE)(T:List Nd)(Qu:List Int)(Lb:List Nd)(G:Int→Option Pc)(D:Int→Option Sp)(rg:Int→Nat→Int)(p a:Int)(D':Int→Option Sp)(DX:List Int)(dO:List Nd)(G':Int→Option Pc)(kS:Int→Nat→Int):Prop where
 e0:eY T p=0
 q:DX=psh (gu Qu p) (jR J.n T p a)
 l:dO=fq (qZ p Lb) p
 g:G'=tT G p
 r:kS=rX rg (jR J.n T p a)
 d:afO D D' p
set_option maxHeartbeats 4000000 in
theorem dY.exit(h:dY W0 w J q c D T Qu Lb G rg){p a:Int}(hi:I64 p)(ha:0≤a∧a≤4294967295):
  Calls Tryz.prog 16 #[.pointer (some ⟨J.ps,0,none⟩), .int .i64 p, .int .u32 a] w fun e w'=>e= .returned (.int .i64 (eY T p))∧KeepP w w'∧((eY T p≠0∧dY W0 w' J q c D T Qu Lb G rg)∨(eY T p=0∧∃c' D' DX dO G' kS,dY W0 w' J q c' D' (iA J.n T p a) DX dO G' kS∧ExR J T Qu Lb G D rg p a D' DX dO G' kS)):=by
 have pE:∀(fn:Fn) (first cap:Array Value) (w:World),(Instr.makeFunc fn first cap).run Tryz.prog w= .ok (.func fn first cap) w:=fun _ _ _ _=>rfl
 have MD:=Lib.hid (oq h.box)
 have H:=Lib.hid h
 have HA:=Lib.hid ha
 obtain⟨er,her⟩:∃er,er=eY T p:=⟨_,rfl⟩
 have HE:=Lib.hid her
 rw[←her]
 clear h ha her
 go_enter Tryz.func16,Tryz.ntmps16
 go_wp2_with fail
 refine MD.out.mono ?_
 rintro e w2 ⟨rfl,hb⟩
 have B2:=Lib.hid hb
 clear hb
 have Z2:=Lib.hid (heap_alloc_new w2 GU)
 have B3:=Lib.hid (below_setRow (B2.out.alloc B2.out.size GU) B2.out.size (gV J))
 have X3:=Lib.hid (setRow_heap _ _ _ (gV J) _ _ Z2.out)
 have H3:=Lib.hid (H.out.step B3.out)
 have EX:=Lib.hid (H3.out.pc.afK p a hi HA.out)
 rw[←HE.out]at EX
 obtain⟨c0, -⟩:=dA X3.out
 go_wp2_with(refine aH iD rfl (.tmp 7) (.tmp 11) rfl w2.heap.size (gV J) rfl rfl _ Z2.out rfl rfl (Gz J) ?_)
 refine EX.out.mono ?_
 rintro e w4 ⟨⟨v,rfl,hv⟩,h4,hk4⟩
 have X4:=Lib.hid (hk4.box X3.out (by decide))
 have K4:=Lib.hid ((KeepP.below B3.out).trans hk4)
 have P4:=Lib.hid h4
 have V4:=Lib.hid hv
 have BX4:=Lib.hid (hk4.box H3.out.box (by decide))
 clear c0 h4 hk4 hv
 by_cases h0:er=0
 ·subst h0
  have e0:eY T p=0:=HE.out.symm
  have hG:(G p).isSome=true:=(H.out.fit.iK p).2 (zV H.out.fit.good e0)
  have hL:(aD p Lb).isSome=true:=(H.out.fit.con p).2 (zV H.out.fit.good e0)
  have CL:=Lib.hid (ab5 H.out.pc.tree (q9 e0).1 hL)
  have FT:=Lib.hid (H.out.fit.exit (dO:=fq (qZ p Lb) p) (G':=tT G p) HA.out e0 CL.out.2 (GV G p))
  have E0:=Lib.hid e0
  have CS:=Lib.hid (P4.out.adV hG)
  obtain⟨-, -, -, -,c4, -⟩:=dA X4.out
  clear e0 hG hL
  go_wp2_with fail
  refine CS.out.mono ?_
  rintro e w5 ⟨rfl,⟨c',D',h5,hd⟩,hk5⟩
  have DD:=Lib.hid hd
  have X5:=Lib.hid (hk5.box X4.out (by decide))
  have V5:=Lib.hid (hk5.row V4.out (by decide))
  have K5:=Lib.hid (K4.out.trans hk5)
  have BX5:=Lib.hid (hk5.box BX4.out (by decide))
  have SB:=Lib.hid (h5.afN p (nD G p))
  obtain⟨-, -, -,c3, -, -⟩:=dA X5.out
  clear h5 hd hk5 c4
  go_wp2_with fail
  refine SB.out.mono ?_
  rintro e w6 ⟨rfl,h6,DU⟩
  have X6:=Lib.hid (DU.box X5.out (by decide))
  have V6:=Lib.hid (DU.row V5.out (by decide))
  have K6:=Lib.hid (K5.out.trans DU)
  have BX6:=Lib.hid (DU.box BX5.out (by decide))
  have DQ:=Lib.hid (h6.abN p)
  obtain⟨-, -, -, -, -,c5⟩:=dA X6.out
  clear h6 DU c3
  go_wp2_with fail
  refine DQ.out.mono ?_
  rintro e w7 ⟨rfl,h7,hk7⟩
  have X7:=Lib.hid (hk7.box X6.out (by decide))
  have V7:=Lib.hid (hk7.row V6.out (by decide))
  have K7:=Lib.hid (K6.out.trans hk7)
  have BX7:=Lib.hid (hk7.box BX6.out (by decide))
  obtain⟨qs,hqs⟩:=h7.yX.block
  have hne:∀{k:Nat} {cs:Array Value} {t:TypeId} {z:Nat×Nat},w7.heap[k]? =some (.cells cs t z)→Oy t→k≠J.qb:=fun {k cs t z} hk ht e=>by
   rw[e,hqs]at hk
   cases hk
   exact ht.2.2 rfl
  have NE:Hid (∀(k:Nat) (cs:Array Value) (t:TypeId) (z:Nat×Nat),w7.heap[k]? =some (.cells cs t z)→Oy t→k≠J.qb):=Lib.hid fun k cs t z=>@hne k cs t z
  have LN:=Lib.hid (Mq (Qf:=psh (gu Qu p)) (R:=jR J.n T p a) h7 FT.out.1 V7.out (k:=57) (caps:=#[.pointer (some ⟨w2.heap.size,0,none⟩)]) EA (x:=J.qb) (lt_of_block hqs) (fun cs z e=>by rw[hqs]at e;cases e) (Ex:=fun _ _=>True) trivial (fun _ _ _ _ _=>trivial)
   (fun pre r V _ hK hP _=>(hP.afW r.1 (hK.box X7.out (by decide) (hne X7.out (by decide)))).mono fun e w' ⟨he,hk,hp⟩=>⟨he,kX.of hk,by rw[Yu];exact hp,trivial⟩))
  clear h7 hk7 c5 hqs hne
  go_wp2_with(refine bP iD rfl (.tmp 7) rfl w2.heap.size rfl (gV J) X7.out rfl ?_)
  refine LN.out.mono ?_
  rintro e w8 ⟨rfl,hk8,h8, -⟩
  have P8:=Lib.hid h8
  have K8:Hid (KeepP w w8):=Lib.hid (K7.out.trans ⟨hk8.size,fun hk ht=>hk8.box hk ht (NE.out _ _ _ _ hk ht)⟩)
  have BX8:=Lib.hid (hk8.box BX7.out (by decide) (NE.out _ _ _ _ BX7.out (by decide)))
  clear hk8 h8
  go_wp2_with fail
  go_ret
  exact⟨rfl,K8.out,_,_,_,_,_,_,⟨P8.out,FT.out.2,BX8.out⟩,⟨E0.out,rfl,rfl,rfl,rfl,DD.out⟩⟩
 ·have d3:(er !=0)=true:=by simpa using h0
  have e2:iA J.n T p a=T:=by unfold iA;rw[if_neg (by rw[←HE.out];exact h0)]
  have P5:Hid (dY W0 w4 J q c D T Qu Lb G rg):=Lib.hid ⟨by have:=P4.out;rwa [e2]at this,H.out.fit,BX4.out⟩
  clear e2
  go_wp2_with fail
  go_ret
  exact⟨rfl,K4.out,Or.inl ⟨h0,P5.out⟩⟩
end
end
end Go.Proofs.YtammlljefhakmaaGreatDoor
