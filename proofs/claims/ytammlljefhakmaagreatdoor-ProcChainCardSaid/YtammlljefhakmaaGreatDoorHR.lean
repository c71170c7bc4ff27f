/- Helps of the proof. No condition. -/
import Derived.Test.YtammlljefhakmaaGreatDoorHQ
namespace Go.Proofs.YtammlljefhakmaaGreatDoor
open Go.RowKit Go.Maps
set_option maxRecDepth 100000
section
def DW(s:Pc)(v:Value)(A:List Ar):Pc:=⟨s.blk,s.root,v,A⟩
theorem Link.ar{W:Nat→Option Sp}{G:Int→Option Pc}{D:Int→Option Sp}(h:Link W G D){i:Int}{s:Pc}(hG:G i=some s)(v:Value)(A:List Ar):Link W (dn G i (DW s v A)) D:=by
 have hat:∀j t,dn G i (DW s v A) j=some t→∃u,G j=some u∧u.root=t.root:=fun j t hj=>by
  by_cases e:j=i
  ·subst e
   rw[putG_same]at hj
   cases hj
   exact⟨s,hG,rfl⟩
  ·rw[aY _ _ _ e]at hj;exact⟨t,hj,rfl⟩
 refine⟨fun j hj=>?_,fun j t hj=>?_,fun j l t u hj hl e=>?_⟩
 ·by_cases e:j=i
  ·subst e;rw[putG_same]at hj;cases hj
  ·rw[aY _ _ _ e]at hj;exact h.none_ j hj
 ·obtain⟨u,hu,hr⟩:=hat j t hj
  rw[←hr];exact h.some_ j u hu
 ·obtain⟨t',ht,hr1⟩:=hat j t hj
  obtain⟨u',hu,hr2⟩:=hat l u hl
  exact h.inj j l t' u' ht hu (by rw[hr1,hr2,e])
section
variable {W0 w:World} {I:lK} {q c:Nat} {Q:Nat→Nat} {V:Nat→Nat→Int} {Lb:List Nd} {G:Int→Option Pc} {D:Int→Option Sp}
theorem Big.DW{W:Nat→Option Sp}{Pb:Pt}(h:Big W0 w I c W Q V Pb Lb G){i:Int}{s:Pc}(hG:G i=some s){v:Value}{A:List Ar}(ha:uW w v A)(hok:qQ A):Goes W0 w (w.setCell ⟨s.blk,2,none⟩ v) I c W Q V Lb (dn G i (DW s v A)):=by
 have ho:Only w (w.setCell ⟨s.blk,2,none⟩ v) (fun k=>k=s.blk):=Only.grown (grownBy_setCell w s.blk 2 v) rfl
 have hbx:=(h.sp i s hG).1
 have hna:∀k,k=s.blk→Df w k:=fun k e=>by rw[e];exact wX hbx (by simp only[Tx,kindOf];decide)
 refine h.own ho (fun k hk=>Or.inr ⟨i,s,hG,hk.symm⟩) ?_ (fun j t hj=>?_)
 ·have e1:jL (dn G i (Go.Proofs.YtammlljefhakmaaGreatDoor.DW s v A))=jL G:=by
   funext j
   unfold jL
   by_cases e:j=i
   ·subst e;rw[putG_same,hG];rfl
   ·rw[aY _ _ _ e]
  rw[e1]
  refine h.map.same (ho.block _ h.map.lt fun e=>?_)
  obtain⟨es,ck,hm⟩:=h.map.isMap
  rw[e,hbx]at hm;cases hm
 ·by_cases e:j=i
  ·subst e
   rw[putG_same]at hj
   cases hj
   exact⟨heap_setCell_same w s.blk 2 _ _ v hbx,ha.only ho hna,hok,h.nsp j s hG⟩
  ·rw[aY _ _ _ e]at hj
   obtain⟨a,b,d⟩:=h.sp j t hj
   exact⟨ho.kept a fun e2=>e (h.inj hj hG e2),b.only ho hna,d,h.nsp j t hj⟩
def aaL(W0 w w':World)(I:lK)(c:Nat)(D:Int→Option Sp)(Q:Nat→Nat)(V:Nat→Nat→Int)(Lb:List Nd)(G:Int→Option Pc)(i:Int)(s:Pc)(R:Int→List Ar→Prop)(e:Ending):Prop:=
 ∃er M,R er M∧(er≠0∧e= .returned (.tuple #[.pointer none, .int .i64 er])∧Below w.heap.size w w'∨er=0∧∃v,e= .returned (.tuple #[.pointer (some ⟨s.blk,0,none⟩), .int .i64 0])∧Ends W0 w w' I c Q V Lb (dn G i (DW s v M)) D)
set_option maxHeartbeats 2000000 in
theorem dR.Uc(h:dR W0 w I q c D Q V Lb G ig (PG G))(i:Int)(hne:dP G i≠0)(k:Nat)(caps:Array Value):
  Calls Tryz.prog 78 #[.pointer (some ⟨I.ss,0,none⟩), .int .i64 i, .func (.func k) #[] caps] w fun e w'=>e= .returned (.tuple #[.pointer none, .int .i64 (dP G i)])∧Below w.heap.size w w':=by
 have HF:=Lib.hid (h.find i (p:=none) (by rw[if_neg hne]) rfl)
 have hne':(dP G i !=0)=true:=by simpa using hne
 generalize dP G i=er at*
 clear h hne
 go_enter Tryz.func78,Tryz.ntmps78
 go_wp2_with fail
 refine HF.out.mono ?_
 rintro e w1 ⟨rfl,hb⟩
 have B:=Lib.hid hb
 clear hb
 go_wp2
 go_ret2
 exact⟨rfl,B.out⟩
set_option maxHeartbeats 4000000 in
theorem dR.change(h:dR W0 w I q c D Q V Lb G ig (PG G)){i:Int}{s:Pc}(hG:G i=some s)(k:Nat)(caps:Array Value)(hent:∀(args:Array Value) (W:World),(callFunc k args).run Tryz.prog W= .ok (.enter k args) W){R:Int→List Ar→Prop}(hR:∀M,R 0 M→qQ M)(hk:∀W,Below w.heap.size w W→uW W s.v s.ar→Calls Tryz.prog k (#[s.v]++caps) W (Lu W R)):
  Calls Tryz.prog 78 #[.pointer (some ⟨I.ss,0,none⟩), .int .i64 i, .func (.func k) #[] caps] w fun e w'=>aaL W0 w w' I c D Q V Lb G i s R e:=by
 have HF:=Lib.hid (h.find i (p:=some s.blk) (by rw[jZ h hG,if_pos rfl,hG];rfl) (jZ h hG))
 have H:=Lib.hid h
 have HG:=Lib.hid hG
 have HK:=Lib.hid hk
 have RR:=Lib.hid hR
 obtain⟨av,cv,hv⟩:=(h.bl.area hG).1.form
 have HV:=Lib.hid hv
 clear h hG hk hR
 go_enter Tryz.func78,Tryz.ntmps78
 go_wp2_with fail
 refine HF.out.mono ?_
 rintro e w1 ⟨rfl,hb⟩
 have B1:=Lib.hid hb
 have S1:=Lib.hid (H.out.step hb)
 have c2:=(S1.out.bl.iK HG.out).2.2
 clear hb hv
 simp only[Aa]
 go_wp2_with fail
 refine(HK.out w1 B1.out (S1.out.bl.area HG.out).1).mono ?_
 rintro e w2 ⟨v,er,M,rfl,hrel,har,hb2⟩
 have B2:=Lib.hid (B1.out.trans (hb2.mono B1.out.size))
 have RL:=Lib.hid hrel
 obtain⟨a2,cc2,rfl⟩:=har.form
 have AR:=Lib.hid har
 have S2:=Lib.hid (H.out.step B2.out)
 clear hb2 hrel har c2
 by_cases h0:er=0
 ·subst h0
  obtain⟨W,Pb,hbig,rO⟩:=S2.out.bl
  have hgo:=hbig.DW HG.out AR.out (RR.out M RL.out)
  have E2:Hid (Ends W0 w2 (w2.setCell ⟨s.blk,2,none⟩ (.slice a2 M.length cc2)) I c Q V Lb (dn G i (DW s (.slice a2 M.length cc2) M)) D):=Lib.hid (by
   obtain⟨⟨Pb',hb'⟩,hk'⟩:=hgo
   exact⟨⟨W,Pb',hb',rO.ar HG.out _ _⟩,hk'⟩)
  have d2:=(hbig.iK HG.out).2.2
  rw[HV.out]at d2
  have f2:=frozen_of_row w2 s.blk 2 _ _ (hbig.sp i s HG.out).1
  clear hbig rO hgo
  go_wp2
  go_ret2
  exact⟨0,M,RL.out,Or.inr ⟨rfl,_,rfl,Ends.ahead B2.out E2.out⟩⟩
 ·have hne':(er !=0)=true:=by simpa using h0
  go_wp2
  go_ret2
  exact⟨er,M,RL.out,Or.inl ⟨h0,rfl,B2.out⟩⟩
end
end
section
theorem Jc(args:Array Value)(W:World):(callFunc 85 args).run Tryz.prog W= .ok (.enter 85 args) W:=enters Tryz.func85 rfl rfl args W
theorem Dq(args:Array Value)(W:World):(callFunc 79 args).run Tryz.prog W= .ok (.enter 79 args) W:=enters Tryz.func79 rfl rfl args W
theorem Gt{L M:List Ar}{a:Ar}(h:Tg L a 0 M):qQ M∧(∀p,dS a p→fF L p=none)∧∀p,fF M p=Xm a (fF L) p:=by
 obtain⟨_,h2,h3⟩:=Qk (by decide) (by decide) h
 exact⟨h3.ok.1,h2,h3.ok.2⟩
theorem yR{L M:List Ar}{f m:Int}(h:Cz L f m 0 M):qQ M∧FitD f m∧∀p,fF M p=Qj f m (fF L) p:=by
 obtain⟨h1,h2,h3⟩:=Qk (by decide) (by decide) h
 exact⟨h3.ok.1,h1.2,h3.ok.2⟩
theorem Ya(L:List Ar)(v:Value)(b:Nat)(x y:Int)(d:Bool)(hx:I64 x)(hy:I64 y)(w:World)(h:uW w v L)(hb:w.heap[b]? =some (.cells #[.int .i64 x, .int .i64 y, .bool d] 23 (0,0))):
  Calls Tryz.prog 85 #[v, .pointer (some ⟨b,0,none⟩)] w (Lu w (Tg L (x,y,d))):=by
 obtain⟨a,c,rfl⟩:=h.form
 have AD:=Lib.hid (aat L _ x y d hx hy w h.at_)
 have c0:w.cell? ⟨b,0,none⟩=some (.int .i64 x):=by rw[cell_of_row _ _ _ _ _ _ hb];rfl
 have c1:w.cell? ⟨b,1,none⟩=some (.int .i64 y):=by rw[cell_of_row _ _ _ _ _ _ hb];rfl
 have c2:w.cell? ⟨b,2,none⟩=some (.bool d):=by rw[cell_of_row _ _ _ _ _ _ hb];rfl
 clear h hb
 go_enter Tryz.func85,Tryz.ntmps85
 go_wp2_with fail
 refine AD.out.mono ?_
 rintro e w1 ⟨v',er,M,rfl,h1,h2,h3⟩
 have R:=Lib.hid (And.intro h1 (And.intro h2 h3))
 clear h1 h2 h3
 go_wp2
 go_ret2
 exact⟨v',er,M,rfl,R.out⟩
theorem Ov(L:List Ar)(v:Value)(b2 b3:Nat)(f m:Int)(hf:I64 f)(hm:I64 m)(w:World)(h:uW w v L)(h2:w.heap[b2]? =some (.cells #[.int .i64 f] 3 (0,0)))(h3:w.heap[b3]? =some (.cells #[.int .i64 m] 3 (0,0))):
  Calls Tryz.prog 79 #[v, .pointer (some ⟨b2,0,none⟩), .pointer (some ⟨b3,0,none⟩)] w (Lu w (Cz L f m)):=by
 obtain⟨a,c,rfl⟩:=h.form
 have AD:=Lib.hid (aau L _ f m hf hm w h.at_)
 have c0:=(cells_one h2).1
 have c1:=(cells_one h3).1
 clear h h2 h3
 go_enter Tryz.func79,Tryz.ntmps79
 go_wp2_with fail
 refine AD.out.mono ?_
 rintro e w1 ⟨v',er,M,rfl,h1,h2,h3⟩
 have R:=Lib.hid (And.intro h1 (And.intro h2 h3))
 clear h1 h2 h3
 go_wp2
 go_ret2
 exact⟨v',er,M,rfl,R.out⟩
section
variable {W0 w:World} {I:lK} {q c:Nat} {Q:Nat→Nat} {V:Nat→Nat→Int} {Lb:List Nd} {G:Int→Option Pc} {D:Int→Option Sp}
set_option maxHeartbeats 2000000 in
theorem dR.aaM(h:dR W0 w I q c D Q V Lb G ig (PG G))(i x y:Int)(d:Bool)(hne:dP G i≠0):
  Calls Tryz.prog 37 #[.pointer (some ⟨I.ss,0,none⟩), .int .i64 i, .agg #[.int .i64 x, .int .i64 y, .bool d]] w fun e w'=>e= .returned (.int .i64 (dP G i))∧Below w.heap.size w w':=by
 have pE:∀(fn:Fn) (first cap:Array Value) (w:World),(Instr.makeFunc fn first cap).run Tryz.prog w= .ok (.func fn first cap) w:=fun _ _ _ _=>rfl
 have B1:Hid (Below w.heap.size w (w.alloc (.cells #[.int .i64 x, .int .i64 y, .bool d] 23))):=Lib.hid ((Below.refl _ _).alloc (Nat.le_refl _) _)
 have CB:=Lib.hid ((h.step B1.out).Uc i hne 85 #[.pointer (some ⟨w.heap.size,0,none⟩)])
 have hne':(dP G i !=0)=true:=by simpa using hne
 generalize dP G i=er at*
 clear h hne
 go_enter Tryz.func37,Tryz.ntmps37
 go_wp2_with fail
 refine CB.out.mono ?_
 rintro e w1 ⟨rfl,hb⟩
 have B:=Lib.hid (B1.out.trans (hb.mono B1.out.size))
 clear hb
 go_wp2
 go_ret
 exact⟨rfl,B.out⟩
set_option maxHeartbeats 2000000 in
theorem dR.grow(h:dR W0 w I q c D Q V Lb G ig (PG G)){i:Int}{s:Pc}(hG:G i=some s)(x y:Int)(d:Bool)(hx:I64 x)(hy:I64 y):
  Calls Tryz.prog 37 #[.pointer (some ⟨I.ss,0,none⟩), .int .i64 i, .agg #[.int .i64 x, .int .i64 y, .bool d]] w fun e w'=>∃er M,Tg s.ar (x,y,d) er M∧e= .returned (.int .i64 er)∧ay w w'∧(er≠0∧dR W0 w' I q c D Q V Lb G ig (PG G)∨er=0∧∃v,dR W0 w' I q c D Q V Lb (dn G i (DW s v M)) ig (PG (dn G i (DW s v M)))):=by
 have pE:∀(fn:Fn) (first cap:Array Value) (w:World),(Instr.makeFunc fn first cap).run Tryz.prog w= .ok (.func fn first cap) w:=fun _ _ _ _=>rfl
 have B1:Hid (Below w.heap.size w (w.alloc (.cells #[.int .i64 x, .int .i64 y, .bool d] 23))):=Lib.hid ((Below.refl _ _).alloc (Nat.le_refl _) _)
 have CB:=Lib.hid ((h.step B1.out).change hG 85 #[.pointer (some ⟨w.heap.size,0,none⟩)] Jc (R:=Tg s.ar (x,y,d)) (fun M hM=>(Gt hM).1) (fun W hb har=>Ya s.ar s.v w.heap.size x y d hx hy W har (below_block hb (heap_alloc_new w _))))
 have H:=Lib.hid h
 have HG:=Lib.hid hG
 clear h hG
 go_enter Tryz.func37,Tryz.ntmps37
 go_wp2_with fail
 refine CB.out.mono ?_
 rintro e w1 ⟨er,M,hrel,⟨hne,rfl,hb⟩|⟨rfl,v,rfl,hend⟩⟩
 ·have B:=Lib.hid (B1.out.trans (hb.mono B1.out.size))
  have RL:=Lib.hid hrel
  have NE:=Lib.hid hne
  clear hb hrel hne
  go_wp2
  go_ret
  exact⟨er,M,RL.out,rfl,ay.below B.out,Or.inl ⟨NE.out,H.out.step B.out⟩⟩
 ·have RL:=Lib.hid hrel
  have E1:=Lib.hid hend
  clear hrel hend
  go_wp2
  go_ret
  refine⟨0,M,RL.out,rfl,(ay.below B1.out).trans E1.out.2,Or.inr ⟨rfl,v,⟨E1.out.1,H.out.j.pages fun j F p hj hp hF=>?_⟩⟩⟩
  by_cases e:j=i
  ·subst e
   have h1:=H.out.j.perm j F p hj hp hF
   rw[lZ HG.out]at h1 ⊢
   rw[lZ (putG_same _ _ _)]
   obtain⟨_,h2,h3⟩:=Gt RL.out
   show fF M (p:Int)= _
   rw[h3]
   unfold Xm
   rw[if_neg]
   intro hh
   rw[h2 _ hh]at h1;cases h1
  ·unfold PG;rw[aY _ _ _ e]
set_option maxHeartbeats 4000000 in
theorem dR.shrink(h:dR W0 w I q c D Q V Lb G ig (PG G)){i:Int}{s:Pc}{F:Sp}(hG:G i=some s)(hD:D i=some F)(x y:Int)(hx:I64 x)(hy:I64 y):
  Calls Tryz.prog 34 #[.pointer (some ⟨I.ss,0,none⟩), .int .i64 i, .int .i64 x, .int .i64 y] w fun e w'=>∃er M,Cz s.ar x y er M∧e= .returned (.int .i64 er)∧ay w w'∧(er≠0∧dR W0 w' I q c D Q V Lb G ig (PG G)∨er=0∧∃v c' D' Q' dO,dR W0 w' I q c' D' Q' V dO (dn G i (DW s v M)) ig (PG (dn G i (DW s v M)))∧Dp D D' V i (span x.toNat y.toNat)∧∃k:Int,dO=bI Lb i k):=by
 have pE:∀(fn:Fn) (first cap:Array Value) (w:World),(Instr.makeFunc fn first cap).run Tryz.prog w= .ok (.func fn first cap) w:=fun _ _ _ _=>rfl
 obtain⟨w1,hw1⟩:∃w1,w1=(w.alloc (.cells #[.int .i64 x] 3)).alloc (.cells #[.int .i64 y] 3):=⟨_,rfl⟩
 have B1:Hid (Below w.heap.size w w1):=Lib.hid (by rw[hw1];exact ak _ _ _)
 have N1:Hid (w1.heap[w.heap.size]? =some (.cells #[.int .i64 x] 3 (0,0))∧w1.heap[w.heap.size+1]? =some (.cells #[.int .i64 y] 3 (0,0))):=Lib.hid (by rw[hw1];exact⟨heap_alloc2_old w _ _,heap_alloc2_new w _ _⟩)
 have CB:=Lib.hid ((h.step B1.out).change hG 79 #[.pointer (some ⟨w.heap.size,0,none⟩), .pointer (some ⟨w.heap.size+1,0,none⟩)] Dq (R:=Cz s.ar x y) (fun M hM=>(yR hM).1) (fun W hb har=>Ov s.ar s.v w.heap.size (w.heap.size+1) x y hx hy W har (below_block hb N1.out.1) (below_block hb N1.out.2)))
 have H:=Lib.hid h
 have HG:=Lib.hid hG
 have HD:=Lib.hid hD
 clear h hG hD
 subst hw1
 go_enter Tryz.func34,Tryz.ntmps34
 go_wp2_with fail
 refine CB.out.mono ?_
 rintro e w2 ⟨er,M,hrel,⟨hne,rfl,hb⟩|⟨rfl,v,rfl,hend⟩⟩
 ·have B:=Lib.hid (B1.out.trans (hb.mono B1.out.size))
  have RL:=Lib.hid hrel
  have NE:=Lib.hid hne
  have hne':(er !=0)=true:=by simpa using hne
  clear hb hrel hne
  go_wp2
  go_ret
  exact⟨er,M,RL.out,rfl,ay.below B.out,Or.inl ⟨NE.out,H.out.step B.out⟩⟩
 ·have RL:=Lib.hid hrel
  have E2:=Lib.hid hend
  have hfit:=(yR hrel).2.1
  unfold FitD at hfit
  have y2:=(cells_one (hend.2.box N1.out.1 (by decide))).1
  have y3:=(cells_one (hend.2.box N1.out.2 (by decide))).1
  have S2:Hid (dR W0 w2 I q c D Q V Lb (dn G i (DW s v M)) ig (PG G)):=Lib.hid ⟨hend.1,H.out.j⟩
  have K2:=Lib.hid ((ay.below B1.out).trans hend.2)
  have RN:=Lib.hid (show Calls Tryz.prog 82 #[.int .i64 x, .int .i64 y] w2 fun e w'=>∃v,e= .returned v∧jw w' v (span x.toNat y.toNat)∧Below w2.heap.size w2 w' from by
   have:=XB x.toNat y.toNat (by omega) (by omega) w2
   rwa [show((x.toNat:Nat):Int)=x by omega,show((y.toNat:Nat):Int)=y by omega]at this)
  have hs2:(span x.toNat y.toNat).length≤2000:=by rw[mD];omega
  have hs3:∀p∈span x.toNat y.toNat,p≤100000:=fun p hp=>by rw[jo]at hp;omega
  clear hrel hend
  go_wp2_with fail
  refine RN.out.mono ?_
  rintro e w3 ⟨v3,rfl,hpg,hb3⟩
  have DR:=Lib.hid (dR.abJ (S2.out.step hb3) (putG_same G i (DW s v M)) HD.out hpg hs2 hs3)
  have K3:=Lib.hid (K2.out.trans (ay.below hb3))
  clear hpg hb3
  go_wp2_with fail
  refine(show Calls Tryz.prog 81 #[.pointer (some ⟨I.ss,0,none⟩), .pointer (some ⟨s.blk,0,none⟩),v3] w3 _ from DR.out).mono ?_
  rintro e w4 ⟨rfl,c4,D4,Q4,F4,hF4,hs4,hk4,hd4⟩
  have S4:=Lib.hid hs4
  have K4:=Lib.hid (K3.out.trans hk4)
  have SD:=Lib.hid hd4
  clear hs4 hk4 hd4 hF4
  go_wp2_with fail
  go_ret
  refine⟨0,M,RL.out,rfl,K4.out,Or.inr ⟨rfl,v,c4,D4,Q4,_,⟨S4.out.bl,S4.out.j.pages fun j F' p hj hp hF=>?_⟩,SD.out,_,rfl⟩⟩
  by_cases e:j=i
  ·subst e
   rw[lZ HG.out,lZ (putG_same _ _ _)]
   show fF M (p:Int)= _
   rw[(yR RL.out).2.2]
   unfold Qj
   rw[if_neg]
   intro hh
   have h1:=SD.out.pr j p hp
   rw[bO hj,hF,show(decide (p∈span x.toNat y.toNat))=true from decide_eq_true (by rw[jo];omega)]at h1
   simp at h1
  ·unfold PG;rw[aY _ _ _ e]
end
end
section
section
variable {W0 w:World} {I:lK} {q c:Nat} {Q:Nat→Nat} {V:Nat→Nat→Int} {Lb:List Nd} {G:Int→Option Pc} {D:Int→Option Sp} {P:Int→Nat→Option Bool}
end
end
section
section
variable {W0 w:World} {I:lK} {q c:Nat} {Q:Nat→Nat} {V:Nat→Nat→Int} {Lb:List Nd} {G:Int→Option Pc} {D:Int→Option Sp}
end
end
section
def yS(G:Int→Option Pc)(Lb:List Nd)(f t:Int):Int:=if(oz f&&oz t)=true then(if(G f).isSome=true then(if(aD t Lb).isSome=true then(if(G t).isSome=true then 5 else 0)else 4)else 4)else 2
section
variable {W0 w:World} {I:lK} {q c:Nat} {Q:Nat→Nat} {V:Nat→Nat→Int} {Lb:List Nd} {G:Int→Option Pc} {D:Int→Option Sp}
theorem uR{i:Int}:oz i=true↔1≤i∧i≤8:=by unfold oz;simp
theorem dR.maps(h:dR W0 w I q c D Q V Lb G ig (PG G))(W:World)(hb:Below w.heap.size w W):W.cell? ⟨I.ss,5,none⟩=some (.map (some I.mm))∧aT W I.mm (jL G):=by
 obtain⟨W1,Pb,h1,_⟩:=(h.step hb).bl;exact⟨h1.cells.2.2.2.2.2,h1.map⟩
theorem dR.adN(h:dR W0 w I q c D Q V Lb G ig (PG G))(W':World)(hb:Below w.heap.size w W'):Calls Tryz.prog 152 #[.pointer (some ⟨I.ss,0,none⟩)] W' fun e w'=>e= .returned (.bool true)∧W'=w':=by
 obtain⟨W,Pb,h1,_⟩:=h.bl;exact h1.there W' hb
theorem adO{i j:Int}:yK true [i,j]=if(oz i&&oz j)=true then 0 else 2:=by
 unfold yK;simp
end
end
section
theorem afD(w:World)(A B C:Obj):(((w.alloc A).alloc B).alloc C).heap[w.heap.size]? =some A∧(((w.alloc A).alloc B).alloc C).heap[w.heap.size+1]? =some B∧(((w.alloc A).alloc B).alloc C).heap[w.heap.size+2]? =some C∧Below w.heap.size w (((w.alloc A).alloc B).alloc C):=by
 refine⟨?_,?_,?_,(((Below.refl _ _).alloc (Nat.le_refl _) _).alloc (by simp) _).alloc (by simp<;>omega) _⟩
 ·rw[heap_alloc_old _ _ (by simp<;>omega),heap_alloc_old _ _ (by simp)];exact heap_alloc_new w A
 ·rw[heap_alloc_old _ _ (by simp)]
  have:=heap_alloc_new (w.alloc A) B
  rwa [World.size_alloc]at this
 ·have:=heap_alloc_new ((w.alloc A).alloc B) C
  rwa [World.size_alloc,World.size_alloc]at this
theorem aaN(a b d:Nat)(w:World):Calls Tryz.prog 97 #[.pointer (some ⟨a,0,none⟩), .pointer (some ⟨b,0,none⟩), .pointer (some ⟨d,0,none⟩)] w fun e w'=>∃b2 b3 b4,e= .returned (.func (.func 158) #[] #[.pointer (some ⟨b2,0,none⟩), .pointer (some ⟨b3,0,none⟩), .pointer (some ⟨b4,0,none⟩)])∧Cap w' b2 b3 a d∧w'.heap[b4]? =some (.cells #[.pointer (some ⟨b,0,none⟩)] 127 (0,0))∧Below w.heap.size w w':=by
 have pE:∀(fn:Fn) (first cap:Array Value) (w:World),(Instr.makeFunc fn first cap).run Tryz.prog w= .ok (.func fn first cap) w:=fun _ _ _ _=>rfl
 have H3:=Lib.hid (afD w (.cells #[.pointer (some ⟨a,0,none⟩)] 34) (.cells #[.pointer (some ⟨b,0,none⟩)] 127) (.cells #[.pointer (some ⟨d,0,none⟩)] 127))
 go_enter Tryz.func97,Tryz.ntmps97
 go_wp2
 go_ret
 exact⟨_,_,_,rfl,⟨H3.out.1,H3.out.2.2.1⟩,H3.out.2.1,H3.out.2.2.2⟩
structure QD(D D':Int→Option Sp)(V:Nat→Nat→Int)(i j:Int)(L:List Nat):Prop where
 pr:∀l r,qz D' l r=if l=i then decide (r∈L)else qz D l r
 rd:∀(U:Nat→Nat→Int) l r y,ou D' U l r y=if l=i then(if r∈L then ou D U j r y else 0)else ou D U l r y
 dom:∀l,(D' l).isSome=(D l).isSome
theorem J.ahL{n q c:Nat}{D:Int→Option Sp}{Q:Nat→Nat}{Lb:List Nd}{ow:Int→Nat}{P:Int→Nat→Option Bool}(h:J n q c D Q Lb ow P){j:Int}{K:Sp}(hj:D j=some K){p f:Nat}(hp:p<1024)(hK:(K p).1=true)(hf:(K p).2.2.2=(f:Int))(hw:(K p).2.1=false)(l:Int)(M:Sp)(hl:D l=some M)(hM:(M p).1=true)(hg:(M p).2.2.2=(f:Int)):(M p).2.1=false:=by
 by_cases e:l=j
 ·subst e
  rw[hj]at hl
  obtain rfl:=Option.some.inj hl
  exact hw
 ·cases hx:(M p).2.1 with
  |false=>rfl
  |true=>
   have h1:=h.excl l M p hl hp hM hx
   rw[hg,Int.toNat_natCast]at h1
   have h2:eO (D j) f=true:=by rw[hj];exact(dN _ _).2 ⟨p,hp,hK,hf⟩
   have h3:eO (D l) f=true:=by rw[hl];exact(dN _ _).2 ⟨p,hp,hM,hg⟩
   have:=Cw (f:=fun l=>b1 (eO (D l) f)) (h.pid j K hj) (h.pid l M hl) e
   rw[←h.cnt f,h1,h2,h3]at this
   simp[b1]at this
section
variable {W0 w:World} {I:lK} {q c:Nat} {Q:Nat→Nat} {V:Nat→Nat→Int} {Lb:List Nd} {G:Int→Option Pc} {D:Int→Option Sp}
set_option maxHeartbeats 2000000 in
theorem dR.Ud{L:List Nat}{i j:Int}(h:dR W0 w I q c D Q V Lb G (single i (bW (fun _=>false) L)) (PG G)){s t:Pc}{K:Sp}(hG:G i=some s)(hD:D i=some qP)(hGj:G j=some t)(hDj:D j=some K)(hij:i≠j)(har:s.ar=t.ar){b2 b3 b4:Nat}(hcap:Cap w b2 b3 I.ss s.blk)(h4:w.heap[b4]? =some (.cells #[.pointer (some ⟨t.blk,0,none⟩)] 127 (0,0))){v:Value}(hv:jw w v L)(hL:L.length≤2000)(hnd:L.Nodup)(hp:∀p∈L,p<1024∧(K p).1=true):
  Calls Tryz.prog 95 #[.pointer (some ⟨I.ss,0,none⟩), .pointer (some ⟨t.blk,0,none⟩),v, .func (.func 158) #[] #[.pointer (some ⟨b2,0,none⟩), .pointer (some ⟨b3,0,none⟩), .pointer (some ⟨b4,0,none⟩)]] w fun e w'=>e= .returned (.int .i64 0)∧∃c' D' Q',dR W0 w' I q c' D' Q' V Lb G ig (PG G)∧ay w w'∧QD D D' V i j L∧c'≤c:=by
 have hji:j≠i:=fun e=>hij e.symm
 refine(om I.ss t.blk I.tb 158 (t.root:Int) _ Ev v L
  (fun k U=>∃c' D' Q',dR W0 U I q c' D' Q' V Lb G (single i (bW (jB (fun _=>false) (L.take k)) (L.drop k))) (PG G)∧ay w U∧QD D D' V i j (L.take k)∧c'≤c)
  (fun _ _=>False) w
  (fun k U ⟨_,_,_,a,b,_⟩=>⟨a.bl.cells.2.2.2.2.1,(a.bl.iK hGj).2.1,hv.keep b⟩)
  (fun k U U' ⟨c',D',Q',a,b,d⟩ hb=>⟨c',D',Q',a.step hb,b.trans (ay.below hb),d⟩)
  (fun k U hk ⟨c',D',Q',a,kb,d,hcc⟩=>?_) ⟨c,D,Q,by simpa[Mc]using h,ay.refl _,⟨fun l r=>?_,fun U l r y=>?_,fun _=>rfl⟩,Nat.le_refl _⟩ (by omega)).mono ?_
 ·have hmem:L.getD k 0∈L:=by
   rw[List.getD_eq_getElem?_getD,List.getElem?_eq_getElem hk];exact List.getElem_mem hk
  obtain⟨hp1,hp2⟩:=hp _ hmem
  have hnot:L.getD k 0∉L.take k:=by
   rw[List.getD_eq_getElem?_getD,List.getElem?_eq_getElem hk]
   intro hm
   obtain⟨m,hm1,hm2⟩:=List.mem_take_iff_getElem.1 hm
   have hm3:m=k:=(List.getElem_inj hnd).1 (by simpa using hm2)
   omega
  obtain⟨F',hF'⟩:∃F',D' i=some F':=by
   have:=d.dom i
   rw[hD]at this
   exact Option.isSome_iff_exists.1 this
  obtain⟨K',hK'⟩:∃F',D' j=some F':=by
   have:=d.dom j
   rw[hDj]at this
   exact Option.isSome_iff_exists.1 this
  have hon:∀r,lM F' r=jB (fun _=>false) (L.take k) r:=fun r=>by
   have:=d.pr i r
   rw[bO hF',if_pos rfl]at this
   simpa[jB]using this
  have hFp:(F' (L.getD k 0)).1=false:=by
   have:=hon (L.getD k 0)
   unfold jB at this
   rw[decide_eq_false hnot]at this
   simpa using this
  have hKp:(K' (L.getD k 0)).1=true:=by
   have:=d.pr j (L.getD k 0)
   rw[bO hK',if_neg hji,bO hDj]at this
   rw[this];exact hp2
  have akc:bW (jB (fun _=>false) (L.take k)) (L.drop k)=(1+newT F' (L.getD k 0))+bW (jB (fun _=>false) (L.take (k+1))) (L.drop (k+1)):=by
   rw[Dm hk,bW,Gs hk,←hon _,Qv,Dl hp1 (fun r _=>hon r),if_neg (show ¬lM F' (L.getD k 0)=true by unfold lM;rw[hFp];decide)]
  obtain⟨f,hf,hfn,Le,hfit⟩:=a.j.held hK' hp1 hKp
  have hent:=uP _ hKp hf
  obtain⟨x1,hx1⟩:∃x1,x1=(K' (L.getD k 0)).2.1:=⟨_,rfl⟩
  obtain⟨x2,hx2⟩:∃x2,x2=(K' (L.getD k 0)).2.2.1:=⟨_,rfl⟩
  have hnw:=Qy (f:=(K' (L.getD k 0)).2.2.2) (w:=x1) (k:=x2) (by rw[hx1,hx2];have:=hfit.2.2;rwa [hKp]at this)
  rw[←hx1,←hx2]at hent
  have hat:MJ K' (L.getD k 0)=(true,x1,x2,(f:Int)):=by
   unfold MJ;rw[if_pos ⟨hp1,hKp⟩,hent]
  refine⟨true,x1,x2,(f:Int),_,fun V0 hb=>(a.bl.step hb).queryP hGj hK' _ (by omega) hat,fun V0 hb=>?_⟩
  have how:=a.j.ow1 i
  rw[dQ]at how
  refine((a.bl.step hb).share1 hG hF' hGj hK' hij ((hcap.keep kb).below hb) (below_block hb (kb.box h4 (by decide))) hp1 hFp hent hnw hfn Le (by have:=a.j.most f;omega) (by omega)).mono ?_
  rintro e w' ⟨rfl,hend⟩
  have hPj:PG G j (L.getD k 0)=some (x1||x2):=by rw[a.j.perm j K' _ hK' hp1 hKp,←hx1,←hx2]
  have hPi:PG G i (L.getD k 0)=some (x1||x2):=by rw[lZ hG,har,←lZ hGj];exact hPj
  have hj1:=a.j.entry hK' hp1 hKp (w:=false) (k:=x1||x2) (Or.inl rfl) (P':=PG G) (by rw[hPj];simp) (fun _ _ _=>rfl) (by simp)
  rw[hf]at hj1
  have hFi:aV D' j (some (aI K' (L.getD k 0) (true,false,x1||x2,(f:Int)))) i=some F':=by rw[aJ _ _ _ hij];exact hF'
  have hKj:(aI K' (L.getD k 0) (true,false,x1||x2,(f:Int))) (L.getD k 0)=(true,false,x1||x2,(f:Int)):=aC _ _ _
  have hj2:=hj1.share (i:=i) (F:=F') hFi hp1 hFp (j0:=j) (aR _ _ _) (by rw[hKj]) (by rw[hKj]) (hj1.ahL (aR _ _ _) hp1 (by rw[hKj]) (by rw[hKj]) (by rw[hKj])) hPi (by rw[dQ];omega)
  rw[jY,Tc _ hji]at hj2
  refine⟨0,rfl,Or.inl ⟨rfl,_,_,_,⟨hend.1,?_⟩,(kb.trans (ay.below hb)).trans hend.2,?_,by omega⟩⟩
  ·have e2:bW (jB (fun _=>false) (L.take (k+1))) (L.drop (k+1))=bW (jB (fun _=>false) (L.take k)) (L.drop k)-(1+newT F' (L.getD k 0)):=by omega
   rw[e2];exact hj2
  ·refine⟨fun l r=>?_,fun U l r y=>?_,fun l=>?_⟩
   ·rw [oM,oM,dX hk]
    by_cases el:l=j
    ·subst el
     rw[if_pos rfl,if_neg hji]
     have:=d.pr l r
     rw[bO hK',if_neg hji]at this
     rw[←this]
     by_cases er:r=L.getD k 0
     ·subst er;rw[aC,hKp]
     ·rw[aA _ _ _ _ er]
    ·rw[if_neg el]
     by_cases ei:l=i
     ·subst ei
      rw[if_pos rfl,if_pos rfl]
      by_cases er:r=L.getD k 0
      ·subst er;rw[aC];simp
      ·rw[aA _ _ _ _ er]
       have:=hon r
       unfold lM jB at this
       rw[this]
       generalize L.getD k 0=pk at er ⊢
       simp[er]
     ·rw[if_neg ei,if_neg ei,d.pr l r,if_neg ei]
   ·rw [oN,oN,dX hk]
    by_cases el:l=j
    ·subst el
     rw[if_pos rfl,if_neg hji]
     have:=d.rd U l r y
     rw[jA hK',if_neg hji]at this
     rw[←this]
     by_cases er:r=L.getD k 0
     ·subst er;rw[aC,hKp,hf]
     ·rw[aA _ _ _ _ er]
    ·rw[if_neg el]
     by_cases ei:l=i
     ·subst ei
      rw[if_pos rfl,if_pos rfl]
      by_cases er:r=L.getD k 0
      ·subst er
       rw[aC,if_pos rfl,if_pos (by simp)]
       have:=d.rd U j (L.getD k 0) y
       rw[jA hK',if_neg hji,if_pos hKp,hf]at this
       exact this
      ·rw[aA _ _ _ _ er]
       have:=d.rd U l r y
       rw[jA hF',if_pos rfl]at this
       rw[this]
       generalize L.getD k 0=pk at er ⊢
       simp[er]
     ·rw[if_neg ei,if_neg ei,d.rd U l r y,if_neg ei]
   ·rw[qV (by rw[aJ _ _ _ hji];exact hK'),qV hF'];exact d.dom l
 ·by_cases e:l=i
  ·subst e;rw[if_pos rfl,bO hD];simp[qP,z0]
  ·rw[if_neg e]
 ·by_cases e:l=i
  ·subst e;rw[if_pos rfl,jA hD];simp[qP,z0]
  ·rw[if_neg e]
 ·rintro e w' ⟨er,rfl,⟨rfl,c',D',Q',a,kb,d,hcc⟩|⟨_,hf⟩⟩
  ·rw[List.take_length]at d
   refine⟨rfl,c',D',Q',?_,kb,d,hcc⟩
   have:single i (bW (jB (fun _=>false) (L.take L.length)) (L.drop L.length))=ig:=by rw[List.drop_length];exact jX i
   rwa [this]at a
  ·exact hf.elim
end
end
section
theorem Gu(G:Int→Option Pc)(i:Int)(s u:Pc):dn (dn G i s) i u=dn G i u:=by
 funext j;unfold dn;split<;>rfl
theorem qo(b:Nat→Bool)(p:Nat):p∈DV b↔p<1024∧b p=true:=by simp[DV]
theorem aaP(K:Sp):bW (fun _=>false) (DV fun p=>(K p).1)+1=cO K:=by
 have h1:=Gp (DV fun p=>(K p).1) (fun _=>false) (fun p hp=>((qo _ p).1 hp).1)
 have h2:rH (jB (fun _=>false) (DV fun p=>(K p).1))=rH (lM K):=LY fun p hp=>by
  unfold jB
  rw[Bool.false_or,Bool.eq_iff_iff,decide_eq_true_iff,qo]
  exact⟨fun h=>h.2,fun h=>⟨hp,h⟩⟩
 have h3:rH (fun _=>false)=1:=KZ
 rw[XJ,←h2,h1,h3];omega
theorem Ue(b:Nat→Bool):(DV b).Nodup:=by unfold DV;exact List.nodup_range.filter _
structure abK(D D':Int→Option Sp)(V:Nat→Nat→Int)(f t:Int):Prop where
 pr:∀l r,r<1024→qz D' l r=if l=t then qz D f r else qz D l r
 rd:∀(U:Nat→Nat→Int) l r y,r<1024→ou D' U l r y=if l=t then ou D U f r y else ou D U l r y
 dom:∀l,(D' l).isSome=if l=t then true else(D l).isSome
section
variable {W0 w:World} {I:lK} {q c:Nat} {Q:Nat→Nat} {V:Nat→Nat→Int} {Lb:List Nd} {G:Int→Option Pc} {D:Int→Option Sp}
theorem QD.fork{D':Int→Option Sp}{f t:Int}{K:Sp}(hf:D f=some K)(hft:t≠f)(h:QD (aV D t (some qP)) D' V t f (DV fun p=>(K p).1)):abK D D' V f t:=by
 have e1:∀r,qz (aV D t (some qP)) f r=qz D f r:=fun r=>by rw[oM,if_neg (fun e=>hft e.symm)]
 refine⟨fun l r hr=>?_,fun U l r y hr=>?_,fun l=>?_⟩
 ·rw[h.pr]
  by_cases e:l=t
  ·rw[if_pos e,if_pos e,bO hf,Bool.eq_iff_iff,decide_eq_true_iff,qo]
   exact⟨fun h=>h.2,fun h=>⟨hr,h⟩⟩
  ·rw[if_neg e,if_neg e,oM,if_neg e]
 ·rw[h.rd]
  by_cases e:l=t
  ·rw[if_pos e,if_pos e,oN,if_neg (show ¬f=t from fun e=>hft e.symm)]
   by_cases hm:r∈DV fun p=>(K p).1
   ·rw[if_pos hm]
   ·rw[if_neg hm]
    refine(Qs ?_ U y).symm
    rw[bO hf]
    cases hx:(K r).1 with
    |false=>rfl
    |true=>exact absurd ((qo _ r).2 ⟨hr,hx⟩) hm
  ·rw[if_neg e,if_neg e,oN,if_neg e]
 ·rw[h.dom]
  by_cases e:l=t
  ·subst e;rw[aR,if_pos rfl];rfl
  ·rw[aJ _ _ _ e,if_neg e]
set_option maxHeartbeats 8000000 in
theorem dR.fork(h:dR W0 w I q c D Q V Lb G ig (PG G))(f t:Int)(h0:yS G Lb f t=0){p:Pc}{K:Sp}(hGf:G f=some p)(hDf:D f=some K):
  Calls Tryz.prog 43 #[.pointer (some ⟨I.ss,0,none⟩), .int .i64 f, .int .i64 t] w fun e w'=>(aS Lb t<(cO K:Int)∧e= .returned (.int .i64 3)∧Below w.heap.size w w')∨((cO K:Int)≤aS Lb t∧e= .returned (.int .i64 0)∧ay w w'∧(1≤t∧t≤8)∧G t=none∧∃s c' D' Q',s.ar=p.ar∧dR W0 w' I q c' D' Q' V (aF Lb t (cO K:Int)) (dn G t s) ig (PG (dn G t s))∧abK D D' V f t∧c'<c):=by
 obtain⟨hid,hN,hGt⟩:(oz f&&oz t)=true∧(aD t Lb).isSome=true∧G t=none:=by
  unfold yS at h0
  cases hid:(oz f&&oz t)with
  |false=>rw[hid]at h0;cases h0
  | true=>
   rw[hid,hGf]at h0
   cases hN:aD t Lb with
   |none=>rw[hN]at h0;cases h0
   |some nd=>
    rw[hN]at h0
    cases hGt:G t with
    |none=>exact⟨rfl,rfl,rfl⟩
    |some u=>rw[hGt]at h0;cases h0
 have hft:t≠f:=fun e=>by rw[e,hGf]at hGt;cases hGt
 obtain⟨hf1,ht1⟩:oz f=true∧oz t=true:=by simpa using hid
 have hf:=uR.1 hf1
 have ht:=uR.1 ht1
 have AK:=Lib.hid (Xy (some ⟨I.ss,0,none⟩) true f t w h.adN (er:=0) (by rw[adO,hid];rfl))
 have MP:=Lib.hid h.maps
 have IC:=Lib.hid (show ∀W,Below w.heap.size w W→Calls Tryz.prog 92 #[.pointer (some ⟨I.ss,0,none⟩), .int .i64 t] W fun e w'=>e= .returned (.bool true)∧Below W.heap.size W w' from fun W hb=>by have:=(h.bl.step hb).tQ t;rwa [hN]at this)
 have HB:=Lib.hid (show jL G f=some p.blk by simp[hGf])
 have HT:=Lib.hid (show jL G t=none by simp[hGt])
 have hcK:1≤cO K∧cO K≤2000:=by
  unfold cO vP Ae rU
  have h1:=List.length_filter_le (hasB K) (List.range 32)
  have h2:=List.length_filter_le (fun p=>(K p).1) (List.range 1024)
  rw[List.length_range]at h1 h2
  omega
 have ND:=Lib.hid (aaP K)
 have CT:=Lib.hid (show ∀W,Below w.heap.size w W→_ from fun W hb=>(h.step hb).bl.cost hGf hDf)
 obtain⟨cf,hcf⟩:∃cf,cf=cO K:=⟨_,rfl⟩
 rw[←hcf]at hcK ND CT ⊢
 have OP:=Lib.hid (show ∀W,Below w.heap.size w W→_ from fun W hb=>(h.step hb).zO ht hGt (by intro e;rw[e]at hN;cases hN) cf ⟨hcK.1,by omega⟩)
 have H:=Lib.hid h
 have HX:=Lib.hid (And.intro hGf (And.intro hDf hGt))
 obtain⟨a0,cc0,hv0⟩:=(h.bl.area hGf).1.form
 have HV:=Lib.hid hv0
 clear h hGf hDf hGt hN hid hf1 ht1 hcf hcK h0 hv0
 go_enter Tryz.func43,Tryz.ntmps43
 go_wp2_with fail
 refine AK.out.mono ?_
 rintro e w1 ⟨rfl,hb⟩
 have B1:=Lib.hid hb
 obtain⟨c5,hmp⟩:=MP.out w1 hb
 have M1:=Lib.hid hmp
 clear hmp hb
 go_wp2_with(refine rM _ rfl (.tmp 22) (.tmp 23) rfl I.mm (jL G) rfl M1.out f rfl (by omega) p.blk HB.out ?_)
 refine(IC.out w1 B1.out).mono ?_
 rintro e w2 ⟨rfl,hb⟩
 have B2:=Lib.hid (B1.out.trans (hb.mono B1.out.size))
 obtain⟨c6,hmp⟩:=MP.out w2 B2.out
 have M2:=Lib.hid hmp
 clear hb hmp c5
 go_wp2_with(refine rJ _ rfl (.tmp 38) (.tmp 39) rfl I.mm (jL G) rfl M2.out t rfl (by omega) HT.out ?_)
 refine(CT.out w2 B2.out).mono ?_
 rintro e w3 ⟨rfl,hb⟩
 have B3:=Lib.hid (B2.out.trans (hb.mono B2.out.size))
 clear hb c6
 go_wp2_with fail
 refine(OP.out w3 B3.out).mono ?_
 rintro e w4 (⟨hl,rfl,hb⟩|⟨hl,s,c4,hs,rfl,hst,hk,hc4⟩)
 ·have B4:=Lib.hid (B3.out.trans (hb.mono B3.out.size))
  have LL:=Lib.hid hl
  clear hb hl
  go_wp2_with fail
  go_ret
  exact Or.inl ⟨LL.out,rfl,B4.out⟩
 ·have S4:=Lib.hid hst
  have HC4:=Lib.hid hc4
  clear hc4
  have K4:=Lib.hid ((ay.below B3.out).trans hk)
  have LL:=Lib.hid hl
  have Yb:dn G t s f=some p:=by rw[aY _ _ _ (fun e=>hft e.symm)];exact HX.out.1
  have HG4:=Lib.hid Yb
  obtain⟨W,Pb,hbig,rO⟩:=hst.bl
  have hgo:=hbig.DW (putG_same G t s) (hbig.sp f p Yb).2.1 (hbig.sp f p Yb).2.2
  rw[Gu]at hgo
  have E5:Hid (Ends W0 w4 (w4.setCell ⟨s.blk,2,none⟩ p.v) I c4 Q V (aF Lb t (cf:Int)) (dn G t (DW s p.v p.ar)) (aV D t (some qP))):=Lib.hid (by
   obtain⟨⟨Pb',hb'⟩,hk'⟩:=hgo
   refine⟨⟨W,Pb',hb',?_⟩,hk'⟩
   have:=rO.ar (putG_same G t s) p.v p.ar
   rwa [Gu]at this)
  have g2:=(hbig.iK Yb).2.2
  have d2:=(hbig.iK (putG_same G t s)).2.2
  have f2:=frozen_of_row w4 s.blk 2 _ _ (hbig.sp t s (putG_same G t s)).1
  rw[HV.out]at g2
  rw[HV.out]at E5
  clear hbig rO hgo hst hk hl Yb hs
  go_wp2_with fail
  obtain⟨w5,hw5⟩:∃w5,w5=w4.setCell ⟨s.blk,2,none⟩ (.slice a0 p.ar.length cc0):=⟨_,rfl⟩
  rw[←hw5]at E5 ⊢
  clear hw5 g2 d2 f2
  have HG5:Hid (dn G t (DW s (.slice a0 p.ar.length cc0) p.ar) f=some p):=Lib.hid (by rw[aY _ _ _ (fun e=>hft e.symm)];exact HX.out.1)
  have HD5:Hid (aV D t (some qP) f=some K):=Lib.hid (by rw[aJ _ _ _ (fun e=>hft e.symm)];exact HX.out.2.1)
  have S5:Hid (dR W0 w5 I q c4 (aV D t (some qP)) Q V (aF Lb t (cf:Int)) (dn G t (DW s (.slice a0 p.ar.length cc0) p.ar)) (single t (bW (fun _=>false) (DV fun p=>(K p).1))) (PG (dn G t (DW s (.slice a0 p.ar.length cc0) p.ar)))):=Lib.hid (by
   refine⟨E5.out.1,?_⟩
   have e1:cf-1=bW (fun _=>false) (DV fun p=>(K p).1):=by have:=ND.out;omega
   rw[←e1]
   refine S4.out.j.pages fun j F' r hj hr hF=>?_
   rcases fE hj with⟨_,rfl⟩|⟨hne,_⟩
   ·cases hF
   ·unfold PG;rw[aY _ _ _ hne,aY _ _ _ hne])
  refine(E5.out.1.mapped HG5.out HD5.out).mono ?_
  rintro e w6 ⟨v6,rfl,ho,hb6⟩
  have B6:=Lib.hid hb6
  have V6:=Lib.hid (jw.lJ ho)
  clear ho hb6
  go_wp2_with fail
  refine(aaN I.ss p.blk s.blk w6).mono ?_
  rintro e w7 ⟨b2,b3,b4,rfl,hcap,hb4,hb7⟩
  have B7:=Lib.hid (B6.out.trans (hb7.mono B6.out.size))
  have C7:=Lib.hid hcap
  have P7:=Lib.hid hb4
  have V7:=Lib.hid (V6.out.keep (ay.below hb7))
  clear hcap hb4 hb7
  go_wp2_with fail
  have WK:=Lib.hid (show Calls Tryz.prog 95 #[.pointer (some ⟨I.ss,0,none⟩), .pointer (some ⟨p.blk,0,none⟩),v6, .func (.func 158) #[] #[.pointer (some ⟨b2,0,none⟩), .pointer (some ⟨b3,0,none⟩), .pointer (some ⟨b4,0,none⟩)]] w7 _ from dR.Ud (S5.out.step B7.out) (putG_same _ _ _) (aR _ _ _) HG5.out HD5.out hft rfl C7.out P7.out V7.out (by unfold DV;exact Nat.le_trans (List.length_filter_le _ _) (by simp)) (Ue _) (fun r hr=>⟨((qo _ r).1 hr).1,((qo _ r).1 hr).2⟩))
  refine WK.out.mono ?_
  rintro e w8 ⟨rfl,c8,D8,Q8,hs8,hk8,hd8,hc8⟩
  have C8:=Lib.hid (Nat.lt_of_le_of_lt hc8 HC4.out)
  have S8:=Lib.hid hs8
  have K8:=Lib.hid (((K4.out.trans E5.out.2).trans (ay.below B7.out)).trans hk8)
  have D8':=Lib.hid hd8
  clear hs8 hk8 hd8 hc8
  go_wp2_with fail
  go_ret
  exact Or.inr ⟨LL.out,rfl,K8.out,ht,by first|trivial|exact HX.out.2.2,DW s (.slice a0 p.ar.length cc0) p.ar,c8,D8,Q8,rfl,S8.out,D8'.out.fork HX.out.2.1 hft,C8.out⟩
end
end
end Go.Proofs.YtammlljefhakmaaGreatDoor
