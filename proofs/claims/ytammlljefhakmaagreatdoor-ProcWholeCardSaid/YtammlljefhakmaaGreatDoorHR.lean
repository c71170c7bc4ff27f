/- Helps of the proof. No condition. -/
import Derived.Test.YtammlljefhakmaaGreatDoorHQ
namespace Go.Proofs.YtammlljefhakmaaGreatDoor
open Go.RowKit Go.Maps
set_option maxRecDepth 100000
section
def LU(s:Pc)(v:Value)(A:List Ar):Pc:=⟨s.blk,s.root,v,A⟩
theorem Link.ar{W:Nat→Option Sp}{G:Int→Option Pc}{D:Int→Option Sp}(h:Link W G D){i:Int}{s:Pc}(hG:G i=some s)(v:Value)(A:List Ar):Link W (dJ G i (LU s v A)) D:=by
 have hat:∀j t,dJ G i (LU s v A) j=some t→∃u,G j=some u∧u.root=t.root:=fun j t hj=>by
  by_cases e:j=i
  ·subst e
   rw[putG_same]at hj
   cases hj
   exact⟨s,hG,rfl⟩
  ·rw[bA _ _ _ e]at hj;exact⟨t,hj,rfl⟩
 refine⟨fun j hj=>?_,fun j t hj=>?_,fun j l t u hj hl e=>?_⟩
 ·by_cases e:j=i
  ·subst e;rw[putG_same]at hj;cases hj
  ·rw[bA _ _ _ e]at hj;exact h.none_ j hj
 ·obtain⟨u,hu,hr⟩:=hat j t hj
  rw[←hr];exact h.some_ j u hu
 ·obtain⟨t',ht,hr1⟩:=hat j t hj
  obtain⟨u',hu,hr2⟩:=hat l u hl
  exact h.inj j l t' u' ht hu (by rw[hr1,hr2,e])
section
variable {W0 w:World} {I:lM} {q c:Nat} {Q:Nat→Nat} {V:Nat→Nat→Int} {Lb:List Nd} {G:Int→Option Pc} {D:Int→Option Sp}
theorem Big.LU{W:Nat→Option Sp}{Pb:Pt}(h:Big W0 w I c W Q V Pb Lb G){i:Int}{s:Pc}(hG:G i=some s){v:Value}{A:List Ar}(ha:vZ w v A)(hok:xk A):Goes W0 w (w.setCell ⟨s.blk,2,none⟩ v) I c W Q V Lb (dJ G i (LU s v A)):=by
 have ho:Only w (w.setCell ⟨s.blk,2,none⟩ v) (fun k=>k=s.blk):=Only.grown (grownBy_setCell w s.blk 2 v) rfl
 have hbx:=(h.sp i s hG).1
 have hna:∀k,k=s.blk→Cz w k:=fun k e=>by rw[e];exact xu hbx (by simp only[Sq,kindOf];decide)
 refine h.own ho (fun k hk=>Or.inr ⟨i,s,hG,hk.symm⟩) ?_ (fun j t hj=>?_)
 ·have e1:jK (dJ G i (Go.Proofs.YtammlljefhakmaaGreatDoor.LU s v A))=jK G:=by
   funext j
   unfold jK
   by_cases e:j=i
   ·subst e;rw[putG_same,hG];rfl
   ·rw[bA _ _ _ e]
  rw[e1]
  refine h.map.same (ho.block _ h.map.lt fun e=>?_)
  obtain⟨es,ck,hm⟩:=h.map.isMap
  rw[e,hbx]at hm;cases hm
 ·by_cases e:j=i
  ·subst e
   rw[putG_same]at hj
   cases hj
   exact⟨heap_setCell_same w s.blk 2 _ _ v hbx,ha.only ho hna,hok,h.ZW j s hG⟩
  ·rw[bA _ _ _ e]at hj
   obtain⟨a,b,d⟩:=h.sp j t hj
   exact⟨ho.kept a fun e2=>e (h.inj hj hG e2),b.only ho hna,d,h.ZW j t hj⟩
def aa9(W0 w w':World)(I:lM)(c:Nat)(D:Int→Option Sp)(Q:Nat→Nat)(V:Nat→Nat→Int)(Lb:List Nd)(G:Int→Option Pc)(i:Int)(s:Pc)(R:Int→List Ar→Prop)(e:Ending):Prop:=
 ∃er M,R er M∧(er≠0∧e= .returned (.tuple #[.pointer none, .int .i64 er])∧Below w.heap.size w w'∨er=0∧∃v,e= .returned (.tuple #[.pointer (some ⟨s.blk,0,none⟩), .int .i64 0])∧Ends W0 w w' I c Q V Lb (dJ G i (LU s v M)) D)
set_option maxHeartbeats 2000000 in
theorem dU.SX(h:dU W0 w I q c D Q V Lb G iA (PG G))(i:Int)(hne:cB G i≠0)(k:Nat)(caps:Array Value):
  Calls Tryz.prog 78 #[.pointer (some ⟨I.ss,0,none⟩), .int .i64 i, .func (.func k) #[] caps] w fun e w'=>e= .returned (.tuple #[.pointer none, .int .i64 (cB G i)])∧Below w.heap.size w w':=by
 have HF:=Lib.hid (h.find i (p:=none) (by rw[if_neg hne]) rfl)
 have hne':(cB G i !=0)=true:=by simpa using hne
 generalize cB G i=er at*
 clear h hne
 go_enter Tryz.func78,Tryz.ntmps78
 go_wp2_with fail
 refine HF.out.mono ?_
 rintro e w1 ⟨rfl,hb⟩
 have B:=Lib.hid hb
 clear hb
 go_wp2
 go_ret2
 exact⟨rfl,B.out⟩
set_option maxHeartbeats 4000000 in
theorem dU.change(h:dU W0 w I q c D Q V Lb G iA (PG G)){i:Int}{s:Pc}(hG:G i=some s)(k:Nat)(caps:Array Value)(hent:∀(args:Array Value) (W:World),(callFunc k args).run Tryz.prog W= .ok (.enter k args) W){R:Int→List Ar→Prop}(hR:∀M,R 0 M→xk M)(hk:∀W,Below w.heap.size w W→vZ W s.v s.ar→Calls Tryz.prog k (#[s.v]++caps) W (WC W R)):
  Calls Tryz.prog 78 #[.pointer (some ⟨I.ss,0,none⟩), .int .i64 i, .func (.func k) #[] caps] w fun e w'=>aa9 W0 w w' I c D Q V Lb G i s R e:=by
 have HF:=Lib.hid (h.find i (p:=some s.blk) (by rw[gH h hG,if_pos rfl,hG];rfl) (gH h hG))
 have H:=Lib.hid h
 have HG:=Lib.hid hG
 have HK:=Lib.hid hk
 have RR:=Lib.hid hR
 obtain⟨av,cv,hv⟩:=(h.bl.area hG).1.form
 have HV:=Lib.hid hv
 clear h hG hk hR
 go_enter Tryz.func78,Tryz.ntmps78
 go_wp2_with fail
 refine HF.out.mono ?_
 rintro e w1 ⟨rfl,hb⟩
 have B1:=Lib.hid hb
 have S1:=Lib.hid (H.out.step hb)
 have c2:=(S1.out.bl.jo HG.out).2.2
 clear hb hv
 simp only[zQ]
 go_wp2_with fail
 refine(HK.out w1 B1.out (S1.out.bl.area HG.out).1).mono ?_
 rintro e w2 ⟨v,er,M,rfl,hrel,har,hb2⟩
 have B2:=Lib.hid (B1.out.trans (hb2.mono B1.out.size))
 have RL:=Lib.hid hrel
 obtain⟨a2,cc2,rfl⟩:=har.form
 have AR:=Lib.hid har
 have S2:=Lib.hid (H.out.step B2.out)
 clear hb2 hrel har c2
 by_cases h0:er=0
 ·subst h0
  obtain⟨W,Pb,hbig,rE⟩:=S2.out.bl
  have hgo:=hbig.LU HG.out AR.out (RR.out M RL.out)
  have E2:Hid (Ends W0 w2 (w2.setCell ⟨s.blk,2,none⟩ (.slice a2 M.length cc2)) I c Q V Lb (dJ G i (LU s (.slice a2 M.length cc2) M)) D):=Lib.hid (by
   obtain⟨⟨Pb',hb'⟩,hk'⟩:=hgo
   exact⟨⟨W,Pb',hb',rE.ar HG.out _ _⟩,hk'⟩)
  have d2:=(hbig.jo HG.out).2.2
  rw[HV.out]at d2
  have f2:=frozen_of_row w2 s.blk 2 _ _ (hbig.sp i s HG.out).1
  clear hbig rE hgo
  go_wp2
  go_ret2
  exact⟨0,M,RL.out,Or.inr ⟨rfl,_,rfl,Ends.ahead B2.out E2.out⟩⟩
 ·have hne':(er !=0)=true:=by simpa using h0
  go_wp2
  go_ret2
  exact⟨er,M,RL.out,Or.inl ⟨h0,rfl,B2.out⟩⟩
end
end
section
theorem IW(args:Array Value)(W:World):(callFunc 85 args).run Tryz.prog W= .ok (.enter 85 args) W:=enters Tryz.func85 rfl rfl args W
theorem Gh{L M:List Ar}{a:Ar}(h:NH L a 0 M):xk M∧(∀p,eB a p→gG L p=none)∧∀p,gG M p=Ws a (gG L) p:=by
 obtain⟨_,h2,h3⟩:=ZK (by decide) (by decide) h
 exact⟨h3.ok.1,h2,h3.ok.2⟩
theorem Xp(L:List Ar)(v:Value)(b:Nat)(x y:Int)(d:Bool)(hx:I64 x)(hy:I64 y)(w:World)(h:vZ w v L)(hb:w.heap[b]? =some (.cells #[.int .i64 x, .int .i64 y, .bool d] 23 (0,0))):
  Calls Tryz.prog 85 #[v, .pointer (some ⟨b,0,none⟩)] w (WC w (NH L (x,y,d))):=by
 obtain⟨a,c,rfl⟩:=h.form
 have AD:=Lib.hid (ZR L _ x y d hx hy w h.at_)
 have c0:w.cell? ⟨b,0,none⟩=some (.int .i64 x):=by rw[cell_of_row _ _ _ _ _ _ hb];rfl
 have c1:w.cell? ⟨b,1,none⟩=some (.int .i64 y):=by rw[cell_of_row _ _ _ _ _ _ hb];rfl
 have c2:w.cell? ⟨b,2,none⟩=some (.bool d):=by rw[cell_of_row _ _ _ _ _ _ hb];rfl
 clear h hb
 go_enter Tryz.func85,Tryz.ntmps85
 go_wp2_with fail
 refine AD.out.mono ?_
 rintro e w1 ⟨v',er,M,rfl,h1,h2,h3⟩
 have R:=Lib.hid (And.intro h1 (And.intro h2 h3))
 clear h1 h2 h3
 go_wp2
 go_ret2
 exact⟨v',er,M,rfl,R.out⟩
section
variable {W0 w:World} {I:lM} {q c:Nat} {Q:Nat→Nat} {V:Nat→Nat→Int} {Lb:List Nd} {G:Int→Option Pc} {D:Int→Option Sp}
set_option maxHeartbeats 2000000 in
theorem dU.aac(h:dU W0 w I q c D Q V Lb G iA (PG G))(i x y:Int)(d:Bool)(hne:cB G i≠0):
  Calls Tryz.prog 37 #[.pointer (some ⟨I.ss,0,none⟩), .int .i64 i, .agg #[.int .i64 x, .int .i64 y, .bool d]] w fun e w'=>e= .returned (.int .i64 (cB G i))∧Below w.heap.size w w':=by
 have qA:∀(fn:Fn) (first cap:Array Value) (w:World),(Instr.makeFunc fn first cap).run Tryz.prog w= .ok (.func fn first cap) w:=fun _ _ _ _=>rfl
 have B1:Hid (Below w.heap.size w (w.alloc (.cells #[.int .i64 x, .int .i64 y, .bool d] 23))):=Lib.hid ((Below.refl _ _).alloc (Nat.le_refl _) _)
 have CB:=Lib.hid ((h.step B1.out).SX i hne 85 #[.pointer (some ⟨w.heap.size,0,none⟩)])
 have hne':(cB G i !=0)=true:=by simpa using hne
 generalize cB G i=er at*
 clear h hne
 go_enter Tryz.func37,Tryz.ntmps37
 go_wp2_with fail
 refine CB.out.mono ?_
 rintro e w1 ⟨rfl,hb⟩
 have B:=Lib.hid (B1.out.trans (hb.mono B1.out.size))
 clear hb
 go_wp2
 go_ret
 exact⟨rfl,B.out⟩
set_option maxHeartbeats 2000000 in
theorem dU.grow(h:dU W0 w I q c D Q V Lb G iA (PG G)){i:Int}{s:Pc}(hG:G i=some s)(x y:Int)(d:Bool)(hx:I64 x)(hy:I64 y):
  Calls Tryz.prog 37 #[.pointer (some ⟨I.ss,0,none⟩), .int .i64 i, .agg #[.int .i64 x, .int .i64 y, .bool d]] w fun e w'=>∃er M,NH s.ar (x,y,d) er M∧e= .returned (.int .i64 er)∧ak w w'∧(er≠0∧dU W0 w' I q c D Q V Lb G iA (PG G)∨er=0∧∃v,dU W0 w' I q c D Q V Lb (dJ G i (LU s v M)) iA (PG (dJ G i (LU s v M)))):=by
 have qA:∀(fn:Fn) (first cap:Array Value) (w:World),(Instr.makeFunc fn first cap).run Tryz.prog w= .ok (.func fn first cap) w:=fun _ _ _ _=>rfl
 have B1:Hid (Below w.heap.size w (w.alloc (.cells #[.int .i64 x, .int .i64 y, .bool d] 23))):=Lib.hid ((Below.refl _ _).alloc (Nat.le_refl _) _)
 have CB:=Lib.hid ((h.step B1.out).change hG 85 #[.pointer (some ⟨w.heap.size,0,none⟩)] IW (R:=NH s.ar (x,y,d)) (fun M hM=>(Gh hM).1) (fun W hb har=>Xp s.ar s.v w.heap.size x y d hx hy W har (below_block hb (heap_alloc_new w _))))
 have H:=Lib.hid h
 have HG:=Lib.hid hG
 clear h hG
 go_enter Tryz.func37,Tryz.ntmps37
 go_wp2_with fail
 refine CB.out.mono ?_
 rintro e w1 ⟨er,M,hrel,⟨hne,rfl,hb⟩|⟨rfl,v,rfl,hend⟩⟩
 ·have B:=Lib.hid (B1.out.trans (hb.mono B1.out.size))
  have RL:=Lib.hid hrel
  have NE:=Lib.hid hne
  clear hb hrel hne
  go_wp2
  go_ret
  exact⟨er,M,RL.out,rfl,ak.below B.out,Or.inl ⟨NE.out,H.out.step B.out⟩⟩
 ·have RL:=Lib.hid hrel
  have E1:=Lib.hid hend
  clear hrel hend
  go_wp2
  go_ret
  refine⟨0,M,RL.out,rfl,(ak.below B1.out).trans E1.out.2,Or.inr ⟨rfl,v,⟨E1.out.1,H.out.j.pages fun j F p hj hp hF=>?_⟩⟩⟩
  by_cases e:j=i
  ·subst e
   have h1:=H.out.j.perm j F p hj hp hF
   rw[mZ HG.out]at h1 ⊢
   rw[mZ (putG_same _ _ _)]
   obtain⟨_,h2,h3⟩:=Gh RL.out
   show gG M (p:Int)= _
   rw[h3]
   unfold Ws
   rw[if_neg]
   intro hh
   rw[h2 _ hh]at h1;cases h1
  ·unfold PG;rw[bA _ _ _ e]
end
end
section
section
variable {W0 w:World} {I:lM} {q c:Nat} {Q:Nat→Nat} {V:Nat→Nat→Int} {Lb:List Nd} {G:Int→Option Pc} {D:Int→Option Sp} {P:Int→Nat→Option Bool}
end
end
section
section
variable {W0 w:World} {I:lM} {q c:Nat} {Q:Nat→Nat} {V:Nat→Nat→Int} {Lb:List Nd} {G:Int→Option Pc} {D:Int→Option Sp}
end
end
section
def yV(G:Int→Option Pc)(Lb:List Nd)(f t:Int):Int:=if(ou f&&ou t)=true then(if(G f).isSome=true then(if(aG t Lb).isSome=true then(if(G t).isSome=true then 5 else 0)else 4)else 4)else 2
section
variable {W0 w:World} {I:lM} {q c:Nat} {Q:Nat→Nat} {V:Nat→Nat→Int} {Lb:List Nd} {G:Int→Option Pc} {D:Int→Option Sp}
theorem uH{i:Int}:ou i=true↔1≤i∧i≤8:=by unfold ou;simp
theorem dU.maps(h:dU W0 w I q c D Q V Lb G iA (PG G))(W:World)(hb:Below w.heap.size w W):W.cell? ⟨I.ss,5,none⟩=some (.map (some I.mm))∧aR W I.mm (jK G):=by
 obtain⟨W1,Pb,h1,_⟩:=(h.step hb).bl;exact⟨h1.cells.2.2.2.2.2,h1.map⟩
theorem dU.adf(h:dU W0 w I q c D Q V Lb G iA (PG G))(W':World)(hb:Below w.heap.size w W'):Calls Tryz.prog 152 #[.pointer (some ⟨I.ss,0,none⟩)] W' fun e w'=>e= .returned (.bool true)∧W'=w':=by
 obtain⟨W,Pb,h1,_⟩:=h.bl;exact h1.there W' hb
theorem adg{i j:Int}:yN true [i,j]=if(ou i&&ou j)=true then 0 else 2:=by
 unfold yN;simp
end
end
section
theorem af7(w:World)(A B C:Obj):(((w.alloc A).alloc B).alloc C).heap[w.heap.size]? =some A∧(((w.alloc A).alloc B).alloc C).heap[w.heap.size+1]? =some B∧(((w.alloc A).alloc B).alloc C).heap[w.heap.size+2]? =some C∧Below w.heap.size w (((w.alloc A).alloc B).alloc C):=by
 refine⟨?_,?_,?_,(((Below.refl _ _).alloc (Nat.le_refl _) _).alloc (by simp) _).alloc (by simp<;>omega) _⟩
 ·rw[heap_alloc_old _ _ (by simp<;>omega),heap_alloc_old _ _ (by simp)];exact heap_alloc_new w A
 ·rw[heap_alloc_old _ _ (by simp)]
  have:=heap_alloc_new (w.alloc A) B
  rwa [World.size_alloc]at this
 ·have:=heap_alloc_new ((w.alloc A).alloc B) C
  rwa [World.size_alloc,World.size_alloc]at this
theorem aad(a b d:Nat)(w:World):Calls Tryz.prog 97 #[.pointer (some ⟨a,0,none⟩), .pointer (some ⟨b,0,none⟩), .pointer (some ⟨d,0,none⟩)] w fun e w'=>∃b2 b3 b4,e= .returned (.func (.func 158) #[] #[.pointer (some ⟨b2,0,none⟩), .pointer (some ⟨b3,0,none⟩), .pointer (some ⟨b4,0,none⟩)])∧Cap w' b2 b3 a d∧w'.heap[b4]? =some (.cells #[.pointer (some ⟨b,0,none⟩)] 127 (0,0))∧Below w.heap.size w w':=by
 have qA:∀(fn:Fn) (first cap:Array Value) (w:World),(Instr.makeFunc fn first cap).run Tryz.prog w= .ok (.func fn first cap) w:=fun _ _ _ _=>rfl
 have H3:=Lib.hid (af7 w (.cells #[.pointer (some ⟨a,0,none⟩)] 34) (.cells #[.pointer (some ⟨b,0,none⟩)] 127) (.cells #[.pointer (some ⟨d,0,none⟩)] 127))
 go_enter Tryz.func97,Tryz.ntmps97
 go_wp2
 go_ret
 exact⟨_,_,_,rfl,⟨H3.out.1,H3.out.2.2.1⟩,H3.out.2.1,H3.out.2.2.2⟩
structure Qc(D D':Int→Option Sp)(V:Nat→Nat→Int)(i j:Int)(L:List Nat):Prop where
 pr:∀l r,qp D' l r=if l=i then decide (r∈L)else qp D l r
 rd:∀(U:Nat→Nat→Int) l r y,oh D' U l r y=if l=i then(if r∈L then oh D U j r y else 0)else oh D U l r y
 dom:∀l,(D' l).isSome=(D l).isSome
theorem J.ahr{n q c:Nat}{D:Int→Option Sp}{Q:Nat→Nat}{Lb:List Nd}{ow:Int→Nat}{P:Int→Nat→Option Bool}(h:J n q c D Q Lb ow P){j:Int}{K:Sp}(hj:D j=some K){p f:Nat}(hp:p<1024)(hK:(K p).1=true)(hf:(K p).2.2.2=(f:Int))(hw:(K p).2.1=false)(l:Int)(M:Sp)(hl:D l=some M)(hM:(M p).1=true)(hg:(M p).2.2.2=(f:Int)):(M p).2.1=false:=by
 by_cases e:l=j
 ·subst e
  rw[hj]at hl
  obtain rfl:=Option.some.inj hl
  exact hw
 ·cases hx:(M p).2.1 with
  |false=>rfl
  |true=>
   have h1:=h.excl l M p hl hp hM hx
   rw[hg,Int.toNat_natCast]at h1
   have h2:fA (D j) f=true:=by rw[hj];exact(dZ _ _).2 ⟨p,hp,hK,hf⟩
   have h3:fA (D l) f=true:=by rw[hl];exact(dZ _ _).2 ⟨p,hp,hM,hg⟩
   have:=Cn (f:=fun l=>b1 (fA (D l) f)) (h.pid j K hj) (h.pid l M hl) e
   rw[←h.cnt f,h1,h2,h3]at this
   simp[b1]at this
section
variable {W0 w:World} {I:lM} {q c:Nat} {Q:Nat→Nat} {V:Nat→Nat→Int} {Lb:List Nd} {G:Int→Option Pc} {D:Int→Option Sp}
set_option maxHeartbeats 2000000 in
theorem dU.Ta{L:List Nat}{i j:Int}(h:dU W0 w I q c D Q V Lb G (single i (bU (fun _=>false) L)) (PG G)){s t:Pc}{K:Sp}(hG:G i=some s)(hD:D i=some qQ)(hGj:G j=some t)(hDj:D j=some K)(hij:i≠j)(har:s.ar=t.ar){b2 b3 b4:Nat}(hcap:Cap w b2 b3 I.ss s.blk)(h4:w.heap[b4]? =some (.cells #[.pointer (some ⟨t.blk,0,none⟩)] 127 (0,0))){v:Value}(hv:jW w v L)(hL:L.length≤2000)(hnd:L.Nodup)(hp:∀p∈L,p<1024∧(K p).1=true):
  Calls Tryz.prog 95 #[.pointer (some ⟨I.ss,0,none⟩), .pointer (some ⟨t.blk,0,none⟩),v, .func (.func 158) #[] #[.pointer (some ⟨b2,0,none⟩), .pointer (some ⟨b3,0,none⟩), .pointer (some ⟨b4,0,none⟩)]] w fun e w'=>e= .returned (.int .i64 0)∧∃c' D' Q',dU W0 w' I q c' D' Q' V Lb G iA (PG G)∧ak w w'∧Qc D D' V i j L∧c'≤c:=by
 have hji:j≠i:=fun e=>hij e.symm
 refine(nZ I.ss t.blk I.tb 158 (t.root:Int) _ Ef v L
  (fun k U=>∃c' D' Q',dU W0 U I q c' D' Q' V Lb G (single i (bU (jA (fun _=>false) (L.take k)) (L.drop k))) (PG G)∧ak w U∧Qc D D' V i j (L.take k)∧c'≤c)
  (fun _ _=>False) w
  (fun k U ⟨_,_,_,a,b,_⟩=>⟨a.bl.cells.2.2.2.2.1,(a.bl.jo hGj).2.1,hv.keep b⟩)
  (fun k U U' ⟨c',D',Q',a,b,d⟩ hb=>⟨c',D',Q',a.step hb,b.trans (ak.below hb),d⟩)
  (fun k U hk ⟨c',D',Q',a,kb,d,hcc⟩=>?_) ⟨c,D,Q,by simpa[LP]using h,ak.refl _,⟨fun l r=>?_,fun U l r y=>?_,fun _=>rfl⟩,Nat.le_refl _⟩ (by omega)).mono ?_
 ·have hmem:L.getD k 0∈L:=by
   rw[List.getD_eq_getElem?_getD,List.getElem?_eq_getElem hk];exact List.getElem_mem hk
  obtain⟨hp1,hp2⟩:=hp _ hmem
  have hnot:L.getD k 0∉L.take k:=by
   rw[List.getD_eq_getElem?_getD,List.getElem?_eq_getElem hk]
   intro hm
   obtain⟨m,hm1,hm2⟩:=List.mem_take_iff_getElem.1 hm
   have hm3:m=k:=(List.getElem_inj hnd).1 (by simpa using hm2)
   omega
  obtain⟨F',hF'⟩:∃F',D' i=some F':=by
   have:=d.dom i
   rw[hD]at this
   exact Option.isSome_iff_exists.1 this
  obtain⟨K',hK'⟩:∃F',D' j=some F':=by
   have:=d.dom j
   rw[hDj]at this
   exact Option.isSome_iff_exists.1 this
  have hon:∀r,kX F' r=jA (fun _=>false) (L.take k) r:=fun r=>by
   have:=d.pr i r
   rw[bO hF',if_pos rfl]at this
   simpa[jA]using this
  have hFp:(F' (L.getD k 0)).1=false:=by
   have:=hon (L.getD k 0)
   unfold jA at this
   rw[decide_eq_false hnot]at this
   simpa using this
  have hKp:(K' (L.getD k 0)).1=true:=by
   have:=d.pr j (L.getD k 0)
   rw[bO hK',if_neg hji,bO hDj]at this
   rw[this];exact hp2
  have ajN:bU (jA (fun _=>false) (L.take k)) (L.drop k)=(1+newT F' (L.getD k 0))+bU (jA (fun _=>false) (L.take (k+1))) (L.drop (k+1)):=by
   rw[C9 hk,bU,Gf hk,←hon _,PK,CZ hp1 (fun r _=>hon r),if_neg (show ¬kX F' (L.getD k 0)=true by unfold kX;rw[hFp];decide)]
  obtain⟨f,hf,hfn,FL,hfit⟩:=a.j.held hK' hp1 hKp
  have hent:=uG _ hKp hf
  obtain⟨x1,hx1⟩:∃x1,x1=(K' (L.getD k 0)).2.1:=⟨_,rfl⟩
  obtain⟨x2,hx2⟩:∃x2,x2=(K' (L.getD k 0)).2.2.1:=⟨_,rfl⟩
  have hnw:=PS (f:=(K' (L.getD k 0)).2.2.2) (w:=x1) (k:=x2) (by rw[hx1,hx2];have:=hfit.2.2;rwa [hKp]at this)
  rw[←hx1,←hx2]at hent
  have hat:Mr K' (L.getD k 0)=(true,x1,x2,(f:Int)):=by
   unfold Mr;rw[if_pos ⟨hp1,hKp⟩,hent]
  refine⟨true,x1,x2,(f:Int),_,fun V0 hb=>(a.bl.step hb).queryP hGj hK' _ (by omega) hat,fun V0 hb=>?_⟩
  have how:=a.j.ow1 i
  rw[dM]at how
  refine((a.bl.step hb).share1 hG hF' hGj hK' hij ((hcap.keep kb).below hb) (below_block hb (kb.box h4 (by decide))) hp1 hFp hent hnw hfn FL (by have:=a.j.most f;omega) (by omega)).mono ?_
  rintro e w' ⟨rfl,hend⟩
  have hPj:PG G j (L.getD k 0)=some (x1||x2):=by rw[a.j.perm j K' _ hK' hp1 hKp,←hx1,←hx2]
  have hPi:PG G i (L.getD k 0)=some (x1||x2):=by rw[mZ hG,har,←mZ hGj];exact hPj
  have hj1:=a.j.entry hK' hp1 hKp (w:=false) (k:=x1||x2) (Or.inl rfl) (P':=PG G) (by rw[hPj];simp) (fun _ _ _=>rfl) (by simp)
  rw[hf]at hj1
  have hFi:aU D' j (some (aH K' (L.getD k 0) (true,false,x1||x2,(f:Int)))) i=some F':=by rw[aI _ _ _ hij];exact hF'
  have hKj:(aH K' (L.getD k 0) (true,false,x1||x2,(f:Int))) (L.getD k 0)=(true,false,x1||x2,(f:Int)):=aD _ _ _
  have hj2:=hj1.share (i:=i) (F:=F') hFi hp1 hFp (j0:=j) (aQ _ _ _) (by rw[hKj]) (by rw[hKj]) (hj1.ahr (aQ _ _ _) hp1 (by rw[hKj]) (by rw[hKj]) (by rw[hKj])) hPi (by rw[dM];omega)
  rw[jY,RU _ hji]at hj2
  refine⟨0,rfl,Or.inl ⟨rfl,_,_,_,⟨hend.1,?_⟩,(kb.trans (ak.below hb)).trans hend.2,?_,by omega⟩⟩
  ·have e2:bU (jA (fun _=>false) (L.take (k+1))) (L.drop (k+1))=bU (jA (fun _=>false) (L.take k)) (L.drop k)-(1+newT F' (L.getD k 0)):=by omega
   rw[e2];exact hj2
  ·refine⟨fun l r=>?_,fun U l r y=>?_,fun l=>?_⟩
   ·rw [oO,oO,dW hk]
    by_cases el:l=j
    ·subst el
     rw[if_pos rfl,if_neg hji]
     have:=d.pr l r
     rw[bO hK',if_neg hji]at this
     rw[←this]
     by_cases er:r=L.getD k 0
     ·subst er;rw[aD,hKp]
     ·rw[aA _ _ _ _ er]
    ·rw[if_neg el]
     by_cases ei:l=i
     ·subst ei
      rw[if_pos rfl,if_pos rfl]
      by_cases er:r=L.getD k 0
      ·subst er;rw[aD];simp
      ·rw[aA _ _ _ _ er]
       have:=hon r
       unfold kX jA at this
       rw[this]
       generalize L.getD k 0=pk at er ⊢
       simp[er]
     ·rw[if_neg ei,if_neg ei,d.pr l r,if_neg ei]
   ·rw [oP,oP,dW hk]
    by_cases el:l=j
    ·subst el
     rw[if_pos rfl,if_neg hji]
     have:=d.rd U l r y
     rw[iN hK',if_neg hji]at this
     rw[←this]
     by_cases er:r=L.getD k 0
     ·subst er;rw[aD,hKp,hf]
     ·rw[aA _ _ _ _ er]
    ·rw[if_neg el]
     by_cases ei:l=i
     ·subst ei
      rw[if_pos rfl,if_pos rfl]
      by_cases er:r=L.getD k 0
      ·subst er
       rw[aD,if_pos rfl,if_pos (by simp)]
       have:=d.rd U j (L.getD k 0) y
       rw[iN hK',if_neg hji,if_pos hKp,hf]at this
       exact this
      ·rw[aA _ _ _ _ er]
       have:=d.rd U l r y
       rw[iN hF',if_pos rfl]at this
       rw[this]
       generalize L.getD k 0=pk at er ⊢
       simp[er]
     ·rw[if_neg ei,if_neg ei,d.rd U l r y,if_neg ei]
   ·rw[qV (by rw[aI _ _ _ hji];exact hK'),qV hF'];exact d.dom l
 ·by_cases e:l=i
  ·subst e;rw[if_pos rfl,bO hD];simp[qQ,z0]
  ·rw[if_neg e]
 ·by_cases e:l=i
  ·subst e;rw[if_pos rfl,iN hD];simp[qQ,z0]
  ·rw[if_neg e]
 ·rintro e w' ⟨er,rfl,⟨rfl,c',D',Q',a,kb,d,hcc⟩|⟨_,hf⟩⟩
  ·rw[List.take_length]at d
   refine⟨rfl,c',D',Q',?_,kb,d,hcc⟩
   have:single i (bU (jA (fun _=>false) (L.take L.length)) (L.drop L.length))=iA:=by rw[List.drop_length];exact jX i
   rwa [this]at a
  ·exact hf.elim
end
end
section
theorem Gi(G:Int→Option Pc)(i:Int)(s u:Pc):dJ (dJ G i s) i u=dJ G i u:=by
 funext j;unfold dJ;split<;>rfl
theorem qw(b:Nat→Bool)(p:Nat):p∈DC b↔p<1024∧b p=true:=by simp[DC]
theorem aaf(K:Sp):bU (fun _=>false) (DC fun p=>(K p).1)+1=dn K:=by
 have h1:=Gb (DC fun p=>(K p).1) (fun _=>false) (fun p hp=>((qw _ p).1 hp).1)
 have h2:rA (jA (fun _=>false) (DC fun p=>(K p).1))=rA (kX K):=Lv fun p hp=>by
  unfold jA
  rw[Bool.false_or,Bool.eq_iff_iff,decide_eq_true_iff,qw]
  exact⟨fun h=>h.2,fun h=>⟨hp,h⟩⟩
 have h3:rA (fun _=>false)=1:=KJ
 rw[Xb,←h2,h1,h3];omega
theorem Tc(b:Nat→Bool):(DC b).Nodup:=by unfold DC;exact List.nodup_range.filter _
structure ab8(D D':Int→Option Sp)(V:Nat→Nat→Int)(f t:Int):Prop where
 pr:∀l r,r<1024→qp D' l r=if l=t then qp D f r else qp D l r
 rd:∀(U:Nat→Nat→Int) l r y,r<1024→oh D' U l r y=if l=t then oh D U f r y else oh D U l r y
 dom:∀l,(D' l).isSome=if l=t then true else(D l).isSome
section
variable {W0 w:World} {I:lM} {q c:Nat} {Q:Nat→Nat} {V:Nat→Nat→Int} {Lb:List Nd} {G:Int→Option Pc} {D:Int→Option Sp}
theorem Qc.fork{D':Int→Option Sp}{f t:Int}{K:Sp}(hf:D f=some K)(hft:t≠f)(h:Qc (aU D t (some qQ)) D' V t f (DC fun p=>(K p).1)):ab8 D D' V f t:=by
 have e1:∀r,qp (aU D t (some qQ)) f r=qp D f r:=fun r=>by rw[oO,if_neg (fun e=>hft e.symm)]
 refine⟨fun l r hr=>?_,fun U l r y hr=>?_,fun l=>?_⟩
 ·rw[h.pr]
  by_cases e:l=t
  ·rw[if_pos e,if_pos e,bO hf,Bool.eq_iff_iff,decide_eq_true_iff,qw]
   exact⟨fun h=>h.2,fun h=>⟨hr,h⟩⟩
  ·rw[if_neg e,if_neg e,oO,if_neg e]
 ·rw[h.rd]
  by_cases e:l=t
  ·rw[if_pos e,if_pos e,oP,if_neg (show ¬f=t from fun e=>hft e.symm)]
   by_cases hm:r∈DC fun p=>(K p).1
   ·rw[if_pos hm]
   ·rw[if_neg hm]
    refine(IJ ?_ U y).symm
    rw[bO hf]
    cases hx:(K r).1 with
    |false=>rfl
    |true=>exact absurd ((qw _ r).2 ⟨hr,hx⟩) hm
  ·rw[if_neg e,if_neg e,oP,if_neg e]
 ·rw[h.dom]
  by_cases e:l=t
  ·subst e;rw[aQ,if_pos rfl];rfl
  ·rw[aI _ _ _ e,if_neg e]
set_option maxHeartbeats 8000000 in
theorem dU.fork(h:dU W0 w I q c D Q V Lb G iA (PG G))(f t:Int)(h0:yV G Lb f t=0){p:Pc}{K:Sp}(hGf:G f=some p)(hDf:D f=some K):
  Calls Tryz.prog 43 #[.pointer (some ⟨I.ss,0,none⟩), .int .i64 f, .int .i64 t] w fun e w'=>(aO Lb t<(dn K:Int)∧e= .returned (.int .i64 3)∧Below w.heap.size w w')∨((dn K:Int)≤aO Lb t∧e= .returned (.int .i64 0)∧ak w w'∧(1≤t∧t≤8)∧G t=none∧∃s c' D' Q',s.ar=p.ar∧dU W0 w' I q c' D' Q' V (aB Lb t (dn K:Int)) (dJ G t s) iA (PG (dJ G t s))∧ab8 D D' V f t∧c'<c):=by
 obtain⟨hid,hN,hGt⟩:(ou f&&ou t)=true∧(aG t Lb).isSome=true∧G t=none:=by
  unfold yV at h0
  cases hid:(ou f&&ou t)with
  |false=>rw[hid]at h0;cases h0
  | true=>
   rw[hid,hGf]at h0
   cases hN:aG t Lb with
   |none=>rw[hN]at h0;cases h0
   |some nd=>
    rw[hN]at h0
    cases hGt:G t with
    |none=>exact⟨rfl,rfl,rfl⟩
    |some u=>rw[hGt]at h0;cases h0
 have hft:t≠f:=fun e=>by rw[e,hGf]at hGt;cases hGt
 obtain⟨hf1,ht1⟩:ou f=true∧ou t=true:=by simpa using hid
 have hf:=uH.1 hf1
 have ht:=uH.1 ht1
 have AK:=Lib.hid (WL (some ⟨I.ss,0,none⟩) true f t w h.adf (er:=0) (by rw[adg,hid];rfl))
 have MP:=Lib.hid h.maps
 have IC:=Lib.hid (show ∀W,Below w.heap.size w W→Calls Tryz.prog 92 #[.pointer (some ⟨I.ss,0,none⟩), .int .i64 t] W fun e w'=>e= .returned (.bool true)∧Below W.heap.size W w' from fun W hb=>by have:=(h.bl.step hb).tQ t;rwa [hN]at this)
 have HB:=Lib.hid (show jK G f=some p.blk by simp[hGf])
 have HT:=Lib.hid (show jK G t=none by simp[hGt])
 have hcK:1≤dn K∧dn K≤2000:=by
  unfold dn vM zU rO
  have h1:=List.length_filter_le (hasB K) (List.range 32)
  have h2:=List.length_filter_le (fun p=>(K p).1) (List.range 1024)
  rw[List.length_range]at h1 h2
  omega
 have ND:=Lib.hid (aaf K)
 have CT:=Lib.hid (show ∀W,Below w.heap.size w W→_ from fun W hb=>(h.step hb).bl.cost hGf hDf)
 obtain⟨cf,hcf⟩:∃cf,cf=dn K:=⟨_,rfl⟩
 rw[←hcf]at hcK ND CT ⊢
 have OP:=Lib.hid (show ∀W,Below w.heap.size w W→_ from fun W hb=>(h.step hb).zG ht hGt (by intro e;rw[e]at hN;cases hN) cf ⟨hcK.1,by omega⟩)
 have H:=Lib.hid h
 have HX:=Lib.hid (And.intro hGf (And.intro hDf hGt))
 obtain⟨a0,cc0,hv0⟩:=(h.bl.area hGf).1.form
 have HV:=Lib.hid hv0
 clear h hGf hDf hGt hN hid hf1 ht1 hcf hcK h0 hv0
 go_enter Tryz.func43,Tryz.ntmps43
 go_wp2_with fail
 refine AK.out.mono ?_
 rintro e w1 ⟨rfl,hb⟩
 have B1:=Lib.hid hb
 obtain⟨c5,hmp⟩:=MP.out w1 hb
 have M1:=Lib.hid hmp
 clear hmp hb
 go_wp2_with(refine rD _ rfl (.tmp 22) (.tmp 23) rfl I.mm (jK G) rfl M1.out f rfl (by omega) p.blk HB.out ?_)
 refine(IC.out w1 B1.out).mono ?_
 rintro e w2 ⟨rfl,hb⟩
 have B2:=Lib.hid (B1.out.trans (hb.mono B1.out.size))
 obtain⟨c6,hmp⟩:=MP.out w2 B2.out
 have M2:=Lib.hid hmp
 clear hb hmp c5
 go_wp2_with(refine rC _ rfl (.tmp 38) (.tmp 39) rfl I.mm (jK G) rfl M2.out t rfl (by omega) HT.out ?_)
 refine(CT.out w2 B2.out).mono ?_
 rintro e w3 ⟨rfl,hb⟩
 have B3:=Lib.hid (B2.out.trans (hb.mono B2.out.size))
 clear hb c6
 go_wp2_with fail
 refine(OP.out w3 B3.out).mono ?_
 rintro e w4 (⟨hl,rfl,hb⟩|⟨hl,s,c4,hs,rfl,hst,hk,hc4⟩)
 ·have B4:=Lib.hid (B3.out.trans (hb.mono B3.out.size))
  have LL:=Lib.hid hl
  clear hb hl
  go_wp2_with fail
  go_ret
  exact Or.inl ⟨LL.out,rfl,B4.out⟩
 ·have S4:=Lib.hid hst
  have HC4:=Lib.hid hc4
  clear hc4
  have K4:=Lib.hid ((ak.below B3.out).trans hk)
  have LL:=Lib.hid hl
  have Xq:dJ G t s f=some p:=by rw[bA _ _ _ (fun e=>hft e.symm)];exact HX.out.1
  have HG4:=Lib.hid Xq
  obtain⟨W,Pb,hbig,rE⟩:=hst.bl
  have hgo:=hbig.LU (putG_same G t s) (hbig.sp f p Xq).2.1 (hbig.sp f p Xq).2.2
  rw[Gi]at hgo
  have E5:Hid (Ends W0 w4 (w4.setCell ⟨s.blk,2,none⟩ p.v) I c4 Q V (aB Lb t (cf:Int)) (dJ G t (LU s p.v p.ar)) (aU D t (some qQ))):=Lib.hid (by
   obtain⟨⟨Pb',hb'⟩,hk'⟩:=hgo
   refine⟨⟨W,Pb',hb',?_⟩,hk'⟩
   have:=rE.ar (putG_same G t s) p.v p.ar
   rwa [Gi]at this)
  have g2:=(hbig.jo Xq).2.2
  have d2:=(hbig.jo (putG_same G t s)).2.2
  have f2:=frozen_of_row w4 s.blk 2 _ _ (hbig.sp t s (putG_same G t s)).1
  rw[HV.out]at g2
  rw[HV.out]at E5
  clear hbig rE hgo hst hk hl Xq hs
  go_wp2_with fail
  obtain⟨w5,Zp⟩:∃w5,w5=w4.setCell ⟨s.blk,2,none⟩ (.slice a0 p.ar.length cc0):=⟨_,rfl⟩
  rw[←Zp]at E5 ⊢
  clear Zp g2 d2 f2
  have HG5:Hid (dJ G t (LU s (.slice a0 p.ar.length cc0) p.ar) f=some p):=Lib.hid (by rw[bA _ _ _ (fun e=>hft e.symm)];exact HX.out.1)
  have HD5:Hid (aU D t (some qQ) f=some K):=Lib.hid (by rw[aI _ _ _ (fun e=>hft e.symm)];exact HX.out.2.1)
  have S5:Hid (dU W0 w5 I q c4 (aU D t (some qQ)) Q V (aB Lb t (cf:Int)) (dJ G t (LU s (.slice a0 p.ar.length cc0) p.ar)) (single t (bU (fun _=>false) (DC fun p=>(K p).1))) (PG (dJ G t (LU s (.slice a0 p.ar.length cc0) p.ar)))):=Lib.hid (by
   refine⟨E5.out.1,?_⟩
   have e1:cf-1=bU (fun _=>false) (DC fun p=>(K p).1):=by have:=ND.out;omega
   rw[←e1]
   refine S4.out.j.pages fun j F' r hj hr hF=>?_
   rcases fE hj with⟨_,rfl⟩|⟨hne,_⟩
   ·cases hF
   ·unfold PG;rw[bA _ _ _ hne,bA _ _ _ hne])
  refine(E5.out.1.mapped HG5.out HD5.out).mono ?_
  rintro e w6 ⟨v6,rfl,ho,hb6⟩
  have B6:=Lib.hid hb6
  have V6:=Lib.hid (jW.mI ho)
  clear ho hb6
  go_wp2_with fail
  refine(aad I.ss p.blk s.blk w6).mono ?_
  rintro e w7 ⟨b2,b3,b4,rfl,hcap,hb4,hb7⟩
  have B7:=Lib.hid (B6.out.trans (hb7.mono B6.out.size))
  have C7:=Lib.hid hcap
  have P7:=Lib.hid hb4
  have V7:=Lib.hid (V6.out.keep (ak.below hb7))
  clear hcap hb4 hb7
  go_wp2_with fail
  have WK:=Lib.hid (show Calls Tryz.prog 95 #[.pointer (some ⟨I.ss,0,none⟩), .pointer (some ⟨p.blk,0,none⟩),v6, .func (.func 158) #[] #[.pointer (some ⟨b2,0,none⟩), .pointer (some ⟨b3,0,none⟩), .pointer (some ⟨b4,0,none⟩)]] w7 _ from dU.Ta (S5.out.step B7.out) (putG_same _ _ _) (aQ _ _ _) HG5.out HD5.out hft rfl C7.out P7.out V7.out (by unfold DC;exact Nat.le_trans (List.length_filter_le _ _) (by simp)) (Tc _) (fun r hr=>⟨((qw _ r).1 hr).1,((qw _ r).1 hr).2⟩))
  refine WK.out.mono ?_
  rintro e w8 ⟨rfl,c8,D8,Q8,Xj,hk8,hd8,hc8⟩
  have C8:=Lib.hid (Nat.lt_of_le_of_lt hc8 HC4.out)
  have S8:=Lib.hid Xj
  have K8:=Lib.hid (((K4.out.trans E5.out.2).trans (ak.below B7.out)).trans hk8)
  have D8':=Lib.hid hd8
  clear Xj hk8 hd8 hc8
  go_wp2_with fail
  go_ret
  exact Or.inr ⟨LL.out,rfl,K8.out,ht,by first|trivial|exact HX.out.2.2,LU s (.slice a0 p.ar.length cc0) p.ar,c8,D8,Q8,rfl,S8.out,D8'.out.fork HX.out.2.1 hft,C8.out⟩
end
end
end Go.Proofs.YtammlljefhakmaaGreatDoor
