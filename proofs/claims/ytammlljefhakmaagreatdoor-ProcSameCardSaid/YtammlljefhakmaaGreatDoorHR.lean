/- Helps of the proof. No condition. -/
import Derived.Test.YtammlljefhakmaaGreatDoorHQ
namespace Go.Proofs.YtammlljefhakmaaGreatDoor
open Go.RowKit Go.Maps
set_option maxRecDepth 100000
section
def Kv(s:Pc)(v:Value)(A:List Ar):Pc:=⟨s.blk,s.root,v,A⟩
theorem Link.ar{W:Nat→Option Sp}{G:Int→Option Pc}{D:Int→Option Sp}(h:Link W G D){i:Int}{s:Pc}(hG:G i=some s)(v:Value)(A:List Ar):Link W (dF G i (Kv s v A)) D:=by
 have hat:∀j t,dF G i (Kv s v A) j=some t→∃u,G j=some u∧u.root=t.root:=fun j t hj=>by
  by_cases e:j=i
  ·subst e
   rw[putG_same]at hj
   cases hj
   exact⟨s,hG,rfl⟩
  ·rw[bg _ _ _ e]at hj;exact⟨t,hj,rfl⟩
 refine⟨fun j hj=>?_,fun j t hj=>?_,fun j l t u hj hl e=>?_⟩
 ·by_cases e:j=i
  ·subst e;rw[putG_same]at hj;cases hj
  ·rw[bg _ _ _ e]at hj;exact h.none_ j hj
 ·obtain⟨u,hu,hr⟩:=hat j t hj
  rw[←hr];exact h.some_ j u hu
 ·obtain⟨t',ht,hr1⟩:=hat j t hj
  obtain⟨u',hu,hr2⟩:=hat l u hl
  exact h.inj j l t' u' ht hu (by rw[hr1,hr2,e])
section
variable {W0 w:World} {I:lH} {q c:Nat} {Q:Nat→Nat} {V:Nat→Nat→Int} {Lb:List Nd} {G:Int→Option Pc} {D:Int→Option Sp}
theorem Big.Kv{W:Nat→Option Sp}{Pb:Pt}(h:Big W0 w I c W Q V Pb Lb G){i:Int}{s:Pc}(hG:G i=some s){v:Value}{A:List Ar}(ha:vG w v A)(hok:xY A):Goes W0 w (w.setCell ⟨s.blk,2,none⟩ v) I c W Q V Lb (dF G i (Kv s v A)):=by
 have ho:Only w (w.setCell ⟨s.blk,2,none⟩ v) (fun k=>k=s.blk):=Only.grown (grownBy_setCell w s.blk 2 v) rfl
 have hbx:=(h.sp i s hG).1
 have hna:∀k,k=s.blk→Cb w k:=fun k e=>by rw[e];exact wH hbx (by simp only[QV,kindOf];decide)
 refine h.own ho (fun k hk=>Or.inr ⟨i,s,hG,hk.symm⟩) ?_ (fun j t hj=>?_)
 ·have e1:jF (dF G i (Go.Proofs.YtammlljefhakmaaGreatDoor.Kv s v A))=jF G:=by
   funext j
   unfold jF
   by_cases e:j=i
   ·subst e;rw[putG_same,hG];rfl
   ·rw[bg _ _ _ e]
  rw[e1]
  refine h.map.same (ho.block _ h.map.lt fun e=>?_)
  obtain⟨es,ck,hm⟩:=h.map.isMap
  rw[e,hbx]at hm;cases hm
 ·by_cases e:j=i
  ·subst e
   rw[putG_same]at hj
   cases hj
   exact⟨heap_setCell_same w s.blk 2 _ _ v hbx,ha.only ho hna,hok,h.Yz j s hG⟩
  ·rw[bg _ _ _ e]at hj
   obtain⟨a,b,d⟩:=h.sp j t hj
   exact⟨ho.kept a fun e2=>e (h.inj hj hG e2),b.only ho hna,d,h.Yz j t hj⟩
def YP(W0 w w':World)(I:lH)(c:Nat)(D:Int→Option Sp)(Q:Nat→Nat)(V:Nat→Nat→Int)(Lb:List Nd)(G:Int→Option Pc)(i:Int)(s:Pc)(R:Int→List Ar→Prop)(e:Ending):Prop:=
 ∃er M,R er M∧(er≠0∧e= .returned (.tuple #[.pointer none, .int .i64 er])∧Below w.heap.size w w'∨er=0∧∃v,e= .returned (.tuple #[.pointer (some ⟨s.blk,0,none⟩), .int .i64 0])∧Ends W0 w w' I c Q V Lb (dF G i (Kv s v M)) D)
set_option maxHeartbeats 2000000 in
theorem eB.Rm(h:eB W0 w I q c D Q V Lb G iw (PG G))(i:Int)(hne:dZ G i≠0)(k:Nat)(caps:Array Value):
  Calls Tryz.prog 78 #[.pointer (some ⟨I.ss,0,none⟩), .int .i64 i, .func (.func k) #[] caps] w fun e w'=>e= .returned (.tuple #[.pointer none, .int .i64 (dZ G i)])∧Below w.heap.size w w':=by
 have HF:=Lib.hid (h.find i (p:=none) (by rw[if_neg hne]) rfl)
 have hne':(dZ G i !=0)=true:=by simpa using hne
 generalize dZ G i=er at*
 clear h hne
 go_enter Tryz.func78,Tryz.ntmps78
 go_wp2_with fail
 refine HF.out.mono ?_
 rintro e w1 ⟨rfl,hb⟩
 have B:=Lib.hid hb
 clear hb
 go_wp2
 go_ret2
 exact⟨rfl,B.out⟩
set_option maxHeartbeats 4000000 in
theorem eB.change(h:eB W0 w I q c D Q V Lb G iw (PG G)){i:Int}{s:Pc}(hG:G i=some s)(k:Nat)(caps:Array Value)(hent:∀(args:Array Value) (W:World),(callFunc k args).run Tryz.prog W= .ok (.enter k args) W){R:Int→List Ar→Prop}(hR:∀M,R 0 M→xY M)(hk:∀W,Below w.heap.size w W→vG W s.v s.ar→Calls Tryz.prog k (#[s.v]++caps) W (Vh W R)):
  Calls Tryz.prog 78 #[.pointer (some ⟨I.ss,0,none⟩), .int .i64 i, .func (.func k) #[] caps] w fun e w'=>YP W0 w w' I c D Q V Lb G i s R e:=by
 have HF:=Lib.hid (h.find i (p:=some s.blk) (by rw[jT h hG,if_pos rfl,hG];rfl) (jT h hG))
 have H:=Lib.hid h
 have HG:=Lib.hid hG
 have HK:=Lib.hid hk
 have RR:=Lib.hid hR
 obtain⟨av,cv,hv⟩:=(h.bl.area hG).1.form
 have HV:=Lib.hid hv
 clear h hG hk hR
 go_enter Tryz.func78,Tryz.ntmps78
 go_wp2_with fail
 refine HF.out.mono ?_
 rintro e w1 ⟨rfl,hb⟩
 have B1:=Lib.hid hb
 have S1:=Lib.hid (H.out.step hb)
 have c2:=(S1.out.bl.jh HG.out).2.2
 clear hb hv
 simp only[zI]
 go_wp2_with fail
 refine(HK.out w1 B1.out (S1.out.bl.area HG.out).1).mono ?_
 rintro e w2 ⟨v,er,M,rfl,hrel,har,hb2⟩
 have B2:=Lib.hid (B1.out.trans (hb2.mono B1.out.size))
 have RL:=Lib.hid hrel
 obtain⟨a2,cc2,rfl⟩:=har.form
 have AR:=Lib.hid har
 have S2:=Lib.hid (H.out.step B2.out)
 clear hb2 hrel har c2
 by_cases h0:er=0
 ·subst h0
  obtain⟨W,Pb,hbig,q8⟩:=S2.out.bl
  have hgo:=hbig.Kv HG.out AR.out (RR.out M RL.out)
  have E2:Hid (Ends W0 w2 (w2.setCell ⟨s.blk,2,none⟩ (.slice a2 M.length cc2)) I c Q V Lb (dF G i (Kv s (.slice a2 M.length cc2) M)) D):=Lib.hid (by
   obtain⟨⟨Pb',hb'⟩,hk'⟩:=hgo
   exact⟨⟨W,Pb',hb',q8.ar HG.out _ _⟩,hk'⟩)
  have d2:=(hbig.jh HG.out).2.2
  rw[HV.out]at d2
  have f2:=frozen_of_row w2 s.blk 2 _ _ (hbig.sp i s HG.out).1
  clear hbig q8 hgo
  go_wp2
  go_ret2
  exact⟨0,M,RL.out,Or.inr ⟨rfl,_,rfl,Ends.ahead B2.out E2.out⟩⟩
 ·have hne':(er !=0)=true:=by simpa using h0
  go_wp2
  go_ret2
  exact⟨er,M,RL.out,Or.inl ⟨h0,rfl,B2.out⟩⟩
end
end
section
theorem Hu(args:Array Value)(W:World):(callFunc 85 args).run Tryz.prog W= .ok (.enter 85 args) W:=enters Tryz.func85 rfl rfl args W
theorem Fa{L M:List Ar}{a:Ar}(h:QH L a 0 M):xY M∧(∀p,gq a p→iR L p=none)∧∀p,iR M p=U6 a (iR L) p:=by
 obtain⟨_,h2,h3⟩:=Yo (by decide) (by decide) h
 exact⟨h3.ok.1,h2,h3.ok.2⟩
theorem VJ(L:List Ar)(v:Value)(b:Nat)(x y:Int)(d:Bool)(hx:I64 x)(hy:I64 y)(w:World)(h:vG w v L)(hb:w.heap[b]? =some (.cells #[.int .i64 x, .int .i64 y, .bool d] 23 (0,0))):
  Calls Tryz.prog 85 #[v, .pointer (some ⟨b,0,none⟩)] w (Vh w (QH L (x,y,d))):=by
 obtain⟨a,c,rfl⟩:=h.form
 have AD:=Lib.hid (Yw L _ x y d hx hy w h.at_)
 have c0:w.cell? ⟨b,0,none⟩=some (.int .i64 x):=by rw[cell_of_row _ _ _ _ _ _ hb];rfl
 have c1:w.cell? ⟨b,1,none⟩=some (.int .i64 y):=by rw[cell_of_row _ _ _ _ _ _ hb];rfl
 have c2:w.cell? ⟨b,2,none⟩=some (.bool d):=by rw[cell_of_row _ _ _ _ _ _ hb];rfl
 clear h hb
 go_enter Tryz.func85,Tryz.ntmps85
 go_wp2_with fail
 refine AD.out.mono ?_
 rintro e w1 ⟨v',er,M,rfl,h1,h2,h3⟩
 have R:=Lib.hid (And.intro h1 (And.intro h2 h3))
 clear h1 h2 h3
 go_wp2
 go_ret2
 exact⟨v',er,M,rfl,R.out⟩
section
variable {W0 w:World} {I:lH} {q c:Nat} {Q:Nat→Nat} {V:Nat→Nat→Int} {Lb:List Nd} {G:Int→Option Pc} {D:Int→Option Sp}
set_option maxHeartbeats 2000000 in
theorem eB.YQ(h:eB W0 w I q c D Q V Lb G iw (PG G))(i x y:Int)(d:Bool)(hne:dZ G i≠0):
  Calls Tryz.prog 37 #[.pointer (some ⟨I.ss,0,none⟩), .int .i64 i, .agg #[.int .i64 x, .int .i64 y, .bool d]] w fun e w'=>e= .returned (.int .i64 (dZ G i))∧Below w.heap.size w w':=by
 have qP:∀(fn:Fn) (first cap:Array Value) (w:World),(Instr.makeFunc fn first cap).run Tryz.prog w= .ok (.func fn first cap) w:=fun _ _ _ _=>rfl
 have B1:Hid (Below w.heap.size w (w.alloc (.cells #[.int .i64 x, .int .i64 y, .bool d] 23))):=Lib.hid ((Below.refl _ _).alloc (Nat.le_refl _) _)
 have CB:=Lib.hid ((h.step B1.out).Rm i hne 85 #[.pointer (some ⟨w.heap.size,0,none⟩)])
 have hne':(dZ G i !=0)=true:=by simpa using hne
 generalize dZ G i=er at*
 clear h hne
 go_enter Tryz.func37,Tryz.ntmps37
 go_wp2_with fail
 refine CB.out.mono ?_
 rintro e w1 ⟨rfl,hb⟩
 have B:=Lib.hid (B1.out.trans (hb.mono B1.out.size))
 clear hb
 go_wp2
 go_ret
 exact⟨rfl,B.out⟩
set_option maxHeartbeats 2000000 in
theorem eB.grow(h:eB W0 w I q c D Q V Lb G iw (PG G)){i:Int}{s:Pc}(hG:G i=some s)(x y:Int)(d:Bool)(hx:I64 x)(hy:I64 y):
  Calls Tryz.prog 37 #[.pointer (some ⟨I.ss,0,none⟩), .int .i64 i, .agg #[.int .i64 x, .int .i64 y, .bool d]] w fun e w'=>∃er M,QH s.ar (x,y,d) er M∧e= .returned (.int .i64 er)∧au w w'∧(er≠0∧eB W0 w' I q c D Q V Lb G iw (PG G)∨er=0∧∃v,eB W0 w' I q c D Q V Lb (dF G i (Kv s v M)) iw (PG (dF G i (Kv s v M)))):=by
 have qP:∀(fn:Fn) (first cap:Array Value) (w:World),(Instr.makeFunc fn first cap).run Tryz.prog w= .ok (.func fn first cap) w:=fun _ _ _ _=>rfl
 have B1:Hid (Below w.heap.size w (w.alloc (.cells #[.int .i64 x, .int .i64 y, .bool d] 23))):=Lib.hid ((Below.refl _ _).alloc (Nat.le_refl _) _)
 have CB:=Lib.hid ((h.step B1.out).change hG 85 #[.pointer (some ⟨w.heap.size,0,none⟩)] Hu (R:=QH s.ar (x,y,d)) (fun M hM=>(Fa hM).1) (fun W hb har=>VJ s.ar s.v w.heap.size x y d hx hy W har (below_block hb (heap_alloc_new w _))))
 have H:=Lib.hid h
 have HG:=Lib.hid hG
 clear h hG
 go_enter Tryz.func37,Tryz.ntmps37
 go_wp2_with fail
 refine CB.out.mono ?_
 rintro e w1 ⟨er,M,hrel,⟨hne,rfl,hb⟩|⟨rfl,v,rfl,hend⟩⟩
 ·have B:=Lib.hid (B1.out.trans (hb.mono B1.out.size))
  have RL:=Lib.hid hrel
  have NE:=Lib.hid hne
  clear hb hrel hne
  go_wp2
  go_ret
  exact⟨er,M,RL.out,rfl,au.below B.out,Or.inl ⟨NE.out,H.out.step B.out⟩⟩
 ·have RL:=Lib.hid hrel
  have E1:=Lib.hid hend
  clear hrel hend
  go_wp2
  go_ret
  refine⟨0,M,RL.out,rfl,(au.below B1.out).trans E1.out.2,Or.inr ⟨rfl,v,⟨E1.out.1,H.out.j.pages fun j F p hj hp hF=>?_⟩⟩⟩
  by_cases e:j=i
  ·subst e
   have h1:=H.out.j.perm j F p hj hp hF
   rw[oH HG.out]at h1 ⊢
   rw[oH (putG_same _ _ _)]
   obtain⟨_,h2,h3⟩:=Fa RL.out
   show iR M (p:Int)= _
   rw[h3]
   unfold U6
   rw[if_neg]
   intro hh
   rw[h2 _ hh]at h1;cases h1
  ·unfold PG;rw[bg _ _ _ e]
end
end
section
section
variable {W0 w:World} {I:lH} {q c:Nat} {Q:Nat→Nat} {V:Nat→Nat→Int} {Lb:List Nd} {G:Int→Option Pc} {D:Int→Option Sp} {P:Int→Nat→Option Bool}
end
end
section
section
variable {W0 w:World} {I:lH} {q c:Nat} {Q:Nat→Nat} {V:Nat→Nat→Int} {Lb:List Nd} {G:Int→Option Pc} {D:Int→Option Sp}
end
end
section
def yF(G:Int→Option Pc)(Lb:List Nd)(f t:Int):Int:=if(nX f&&nX t)=true then(if(G f).isSome=true then(if(aH t Lb).isSome=true then(if(G t).isSome=true then 5 else 0)else 4)else 4)else 2
section
variable {W0 w:World} {I:lH} {q c:Nat} {Q:Nat→Nat} {V:Nat→Nat→Int} {Lb:List Nd} {G:Int→Option Pc} {D:Int→Option Sp}
theorem wM{i:Int}:nX i=true↔1≤i∧i≤8:=by unfold nX;simp
theorem eB.maps(h:eB W0 w I q c D Q V Lb G iw (PG G))(W:World)(hb:Below w.heap.size w W):W.cell? ⟨I.ss,5,none⟩=some (.map (some I.mm))∧aR W I.mm (jF G):=by
 obtain⟨W1,Pb,h1,_⟩:=(h.step hb).bl;exact⟨h1.cells.2.2.2.2.2,h1.map⟩
theorem eB.abH(h:eB W0 w I q c D Q V Lb G iw (PG G))(W':World)(hb:Below w.heap.size w W'):Calls Tryz.prog 152 #[.pointer (some ⟨I.ss,0,none⟩)] W' fun e w'=>e= .returned (.bool true)∧W'=w':=by
 obtain⟨W,Pb,h1,_⟩:=h.bl;exact h1.there W' hb
theorem abI{i j:Int}:yt true [i,j]=if(nX i&&nX j)=true then 0 else 2:=by
 unfold yt;simp
end
end
section
theorem adA(w:World)(A B C:Obj):(((w.alloc A).alloc B).alloc C).heap[w.heap.size]? =some A∧(((w.alloc A).alloc B).alloc C).heap[w.heap.size+1]? =some B∧(((w.alloc A).alloc B).alloc C).heap[w.heap.size+2]? =some C∧Below w.heap.size w (((w.alloc A).alloc B).alloc C):=by
 refine⟨?_,?_,?_,(((Below.refl _ _).alloc (Nat.le_refl _) _).alloc (by simp) _).alloc (by simp<;>omega) _⟩
 ·rw[heap_alloc_old _ _ (by simp<;>omega),heap_alloc_old _ _ (by simp)];exact heap_alloc_new w A
 ·rw[heap_alloc_old _ _ (by simp)]
  have:=heap_alloc_new (w.alloc A) B
  rwa [World.size_alloc]at this
 ·have:=heap_alloc_new ((w.alloc A).alloc B) C
  rwa [World.size_alloc,World.size_alloc]at this
theorem YR(a b d:Nat)(w:World):Calls Tryz.prog 97 #[.pointer (some ⟨a,0,none⟩), .pointer (some ⟨b,0,none⟩), .pointer (some ⟨d,0,none⟩)] w fun e w'=>∃b2 b3 b4,e= .returned (.func (.func 158) #[] #[.pointer (some ⟨b2,0,none⟩), .pointer (some ⟨b3,0,none⟩), .pointer (some ⟨b4,0,none⟩)])∧Cap w' b2 b3 a d∧w'.heap[b4]? =some (.cells #[.pointer (some ⟨b,0,none⟩)] 127 (0,0))∧Below w.heap.size w w':=by
 have qP:∀(fn:Fn) (first cap:Array Value) (w:World),(Instr.makeFunc fn first cap).run Tryz.prog w= .ok (.func fn first cap) w:=fun _ _ _ _=>rfl
 have H3:=Lib.hid (adA w (.cells #[.pointer (some ⟨a,0,none⟩)] 34) (.cells #[.pointer (some ⟨b,0,none⟩)] 127) (.cells #[.pointer (some ⟨d,0,none⟩)] 127))
 go_enter Tryz.func97,Tryz.ntmps97
 go_wp2
 go_ret
 exact⟨_,_,_,rfl,⟨H3.out.1,H3.out.2.2.1⟩,H3.out.2.1,H3.out.2.2.2⟩
structure Oo(D D':Int→Option Sp)(V:Nat→Nat→Int)(i j:Int)(L:List Nat):Prop where
 pr:∀l r,oV D' l r=if l=i then decide (r∈L)else oV D l r
 rd:∀(U:Nat→Nat→Int) l r y,kJ D' U l r y=if l=i then(if r∈L then kJ D U j r y else 0)else kJ D U l r y
 dom:∀l,(D' l).isSome=(D l).isSome
theorem J.afL{n q c:Nat}{D:Int→Option Sp}{Q:Nat→Nat}{Lb:List Nd}{ow:Int→Nat}{P:Int→Nat→Option Bool}(h:J n q c D Q Lb ow P){j:Int}{K:Sp}(hj:D j=some K){p f:Nat}(hp:p<1024)(hK:(K p).1=true)(hf:(K p).2.2.2=(f:Int))(hw:(K p).2.1=false)(l:Int)(M:Sp)(hl:D l=some M)(hM:(M p).1=true)(hg:(M p).2.2.2=(f:Int)):(M p).2.1=false:=by
 by_cases e:l=j
 ·subst e
  rw[hj]at hl
  obtain rfl:=Option.some.inj hl
  exact hw
 ·cases hx:(M p).2.1 with
  |false=>rfl
  |true=>
   have h1:=h.excl l M p hl hp hM hx
   rw[hg,Int.toNat_natCast]at h1
   have h2:dY (D j) f=true:=by rw[hj];exact(dK _ _).2 ⟨p,hp,hK,hf⟩
   have h3:dY (D l) f=true:=by rw[hl];exact(dK _ _).2 ⟨p,hp,hM,hg⟩
   have:=BI (f:=fun l=>b1 (dY (D l) f)) (h.pid j K hj) (h.pid l M hl) e
   rw[←h.cnt f,h1,h2,h3]at this
   simp[b1]at this
section
variable {W0 w:World} {I:lH} {q c:Nat} {Q:Nat→Nat} {V:Nat→Nat→Int} {Lb:List Nd} {G:Int→Option Pc} {D:Int→Option Sp}
set_option maxHeartbeats 2000000 in
theorem eB.Rn{L:List Nat}{i j:Int}(h:eB W0 w I q c D Q V Lb G (single i (bU (fun _=>false) L)) (PG G)){s t:Pc}{K:Sp}(hG:G i=some s)(hD:D i=some qg)(hGj:G j=some t)(hDj:D j=some K)(hij:i≠j)(har:s.ar=t.ar){b2 b3 b4:Nat}(hcap:Cap w b2 b3 I.ss s.blk)(h4:w.heap[b4]? =some (.cells #[.pointer (some ⟨t.blk,0,none⟩)] 127 (0,0))){v:Value}(hv:jQ w v L)(hL:L.length≤2000)(hnd:L.Nodup)(hp:∀p∈L,p<1024∧(K p).1=true):
  Calls Tryz.prog 95 #[.pointer (some ⟨I.ss,0,none⟩), .pointer (some ⟨t.blk,0,none⟩),v, .func (.func 158) #[] #[.pointer (some ⟨b2,0,none⟩), .pointer (some ⟨b3,0,none⟩), .pointer (some ⟨b4,0,none⟩)]] w fun e w'=>e= .returned (.int .i64 0)∧∃c' D' Q',eB W0 w' I q c' D' Q' V Lb G iw (PG G)∧au w w'∧Oo D D' V i j L∧c'≤c:=by
 have hji:j≠i:=fun e=>hij e.symm
 refine(nR I.ss t.blk I.tb 158 (t.root:Int) _ Dx v L
  (fun k U=>∃c' D' Q',eB W0 U I q c' D' Q' V Lb G (single i (bU (jm (fun _=>false) (L.take k)) (L.drop k))) (PG G)∧au w U∧Oo D D' V i j (L.take k)∧c'≤c)
  (fun _ _=>False) w
  (fun k U ⟨_,_,_,a,b,_⟩=>⟨a.bl.cells.2.2.2.2.1,(a.bl.jh hGj).2.1,hv.keep b⟩)
  (fun k U U' ⟨c',D',Q',a,b,d⟩ hb=>⟨c',D',Q',a.step hb,b.trans (au.below hb),d⟩)
  (fun k U hk ⟨c',D',Q',a,kb,d,hcc⟩=>?_) ⟨c,D,Q,by simpa[Ku]using h,au.refl _,⟨fun l r=>?_,fun U l r y=>?_,fun _=>rfl⟩,Nat.le_refl _⟩ (by omega)).mono ?_
 ·have hmem:L.getD k 0∈L:=by
   rw[List.getD_eq_getElem?_getD,List.getElem?_eq_getElem hk];exact List.getElem_mem hk
  obtain⟨hp1,hp2⟩:=hp _ hmem
  have hnot:L.getD k 0∉L.take k:=by
   rw[List.getD_eq_getElem?_getD,List.getElem?_eq_getElem hk]
   intro hm
   obtain⟨m,hm1,hm2⟩:=List.mem_take_iff_getElem.1 hm
   have hm3:m=k:=(List.getElem_inj hnd).1 (by simpa using hm2)
   omega
  obtain⟨F',hF'⟩:∃F',D' i=some F':=by
   have:=d.dom i
   rw[hD]at this
   exact Option.isSome_iff_exists.1 this
  obtain⟨K',hK'⟩:∃F',D' j=some F':=by
   have:=d.dom j
   rw[hDj]at this
   exact Option.isSome_iff_exists.1 this
  have hon:∀r,lI F' r=jm (fun _=>false) (L.take k) r:=fun r=>by
   have:=d.pr i r
   rw[bL hF',if_pos rfl]at this
   simpa[jm]using this
  have hFp:(F' (L.getD k 0)).1=false:=by
   have:=hon (L.getD k 0)
   unfold jm at this
   rw[decide_eq_false hnot]at this
   simpa using this
  have YS:(K' (L.getD k 0)).1=true:=by
   have:=d.pr j (L.getD k 0)
   rw[bL hK',if_neg hji,bL hDj]at this
   rw[this];exact hp2
  have ahW:bU (jm (fun _=>false) (L.take k)) (L.drop k)=(1+newT F' (L.getD k 0))+bU (jm (fun _=>false) (L.take (k+1))) (L.drop (k+1)):=by
   rw[Cn hk,bU,EZ hk,←hon _,Og,Cm hp1 (fun r _=>hon r),if_neg (show ¬lI F' (L.getD k 0)=true by unfold lI;rw[hFp];decide)]
  obtain⟨f,hf,hfn,JV,hfit⟩:=a.j.held hK' hp1 YS
  have hent:=uo _ YS hf
  obtain⟨x1,hx1⟩:∃x1,x1=(K' (L.getD k 0)).2.1:=⟨_,rfl⟩
  obtain⟨x2,hx2⟩:∃x2,x2=(K' (L.getD k 0)).2.2.1:=⟨_,rfl⟩
  have hnw:=Oj (f:=(K' (L.getD k 0)).2.2.2) (w:=x1) (k:=x2) (by rw[hx1,hx2];have:=hfit.2.2;rwa [YS]at this)
  rw[←hx1,←hx2]at hent
  have hat:KS K' (L.getD k 0)=(true,x1,x2,(f:Int)):=by
   unfold KS;rw[if_pos ⟨hp1,YS⟩,hent]
  refine⟨true,x1,x2,(f:Int),_,fun V0 hb=>(a.bl.step hb).queryP hGj hK' _ (by omega) hat,fun V0 hb=>?_⟩
  have how:=a.j.ow1 i
  rw[dL]at how
  refine((a.bl.step hb).share1 hG hF' hGj hK' hij ((hcap.keep kb).below hb) (below_block hb (kb.box h4 (by decide))) hp1 hFp hent hnw hfn JV (by have:=a.j.most f;omega) (by omega)).mono ?_
  rintro e w' ⟨rfl,hend⟩
  have hPj:PG G j (L.getD k 0)=some (x1||x2):=by rw[a.j.perm j K' _ hK' hp1 YS,←hx1,←hx2]
  have hPi:PG G i (L.getD k 0)=some (x1||x2):=by rw[oH hG,har,←oH hGj];exact hPj
  have hj1:=a.j.entry hK' hp1 YS (w:=false) (k:=x1||x2) (Or.inl rfl) (P':=PG G) (by rw[hPj];simp) (fun _ _ _=>rfl) (by simp)
  rw[hf]at hj1
  have hFi:aT D' j (some (aJ K' (L.getD k 0) (true,false,x1||x2,(f:Int)))) i=some F':=by rw[aI _ _ _ hij];exact hF'
  have hKj:(aJ K' (L.getD k 0) (true,false,x1||x2,(f:Int))) (L.getD k 0)=(true,false,x1||x2,(f:Int)):=aG _ _ _
  have hj2:=hj1.share (i:=i) (F:=F') hFi hp1 hFp (j0:=j) (aQ _ _ _) (by rw[hKj]) (by rw[hKj]) (hj1.afL (aQ _ _ _) hp1 (by rw[hKj]) (by rw[hKj]) (by rw[hKj])) hPi (by rw[dL];omega)
  rw[jS,QC _ hji]at hj2
  refine⟨0,rfl,Or.inl ⟨rfl,_,_,_,⟨hend.1,?_⟩,(kb.trans (au.below hb)).trans hend.2,?_,by omega⟩⟩
  ·have e2:bU (jm (fun _=>false) (L.take (k+1))) (L.drop (k+1))=bU (jm (fun _=>false) (L.take k)) (L.drop k)-(1+newT F' (L.getD k 0)):=by omega
   rw[e2];exact hj2
  ·refine⟨fun l r=>?_,fun U l r y=>?_,fun l=>?_⟩
   ·rw [oD,oD,dR hk]
    by_cases el:l=j
    ·subst el
     rw[if_pos rfl,if_neg hji]
     have:=d.pr l r
     rw[bL hK',if_neg hji]at this
     rw[←this]
     by_cases er:r=L.getD k 0
     ·subst er;rw[aG,YS]
     ·rw[aC _ _ _ _ er]
    ·rw[if_neg el]
     by_cases ei:l=i
     ·subst ei
      rw[if_pos rfl,if_pos rfl]
      by_cases er:r=L.getD k 0
      ·subst er;rw[aG];simp
      ·rw[aC _ _ _ _ er]
       have:=hon r
       unfold lI jm at this
       rw[this]
       generalize L.getD k 0=pk at er ⊢
       simp[er]
     ·rw[if_neg ei,if_neg ei,d.pr l r,if_neg ei]
   ·rw [oF,oF,dR hk]
    by_cases el:l=j
    ·subst el
     rw[if_pos rfl,if_neg hji]
     have:=d.rd U l r y
     rw[gJ hK',if_neg hji]at this
     rw[←this]
     by_cases er:r=L.getD k 0
     ·subst er;rw[aG,YS,hf]
     ·rw[aC _ _ _ _ er]
    ·rw[if_neg el]
     by_cases ei:l=i
     ·subst ei
      rw[if_pos rfl,if_pos rfl]
      by_cases er:r=L.getD k 0
      ·subst er
       rw[aG,if_pos rfl,if_pos (by simp)]
       have:=d.rd U j (L.getD k 0) y
       rw[gJ hK',if_neg hji,if_pos YS,hf]at this
       exact this
      ·rw[aC _ _ _ _ er]
       have:=d.rd U l r y
       rw[gJ hF',if_pos rfl]at this
       rw[this]
       generalize L.getD k 0=pk at er ⊢
       simp[er]
     ·rw[if_neg ei,if_neg ei,d.rd U l r y,if_neg ei]
   ·rw[qK (by rw[aI _ _ _ hji];exact hK'),qK hF'];exact d.dom l
 ·by_cases e:l=i
  ·subst e;rw[if_pos rfl,bL hD];simp[qg,z0]
  ·rw[if_neg e]
 ·by_cases e:l=i
  ·subst e;rw[if_pos rfl,gJ hD];simp[qg,z0]
  ·rw[if_neg e]
 ·rintro e w' ⟨er,rfl,⟨rfl,c',D',Q',a,kb,d,hcc⟩|⟨_,hf⟩⟩
  ·rw[List.take_length]at d
   refine⟨rfl,c',D',Q',?_,kb,d,hcc⟩
   have:single i (bU (jm (fun _=>false) (L.take L.length)) (L.drop L.length))=iw:=by rw[List.drop_length];exact jR i
   rwa [this]at a
  ·exact hf.elim
end
end
section
theorem Fb(G:Int→Option Pc)(i:Int)(s u:Pc):dF (dF G i s) i u=dF G i u:=by
 funext j;unfold dF;split<;>rfl
theorem pX(b:Nat→Bool)(p:Nat):p∈C9 b↔p<1024∧b p=true:=by simp[C9]
theorem YT(K:Sp):bU (fun _=>false) (C9 fun p=>(K p).1)+1=bY K:=by
 have h1:=EU (C9 fun p=>(K p).1) (fun _=>false) (fun p hp=>((pX _ p).1 hp).1)
 have h2:qX (jm (fun _=>false) (C9 fun p=>(K p).1))=qX (lI K):=zh fun p hp=>by
  unfold jm
  rw[Bool.false_or,Bool.eq_iff_iff,decide_eq_true_iff,pX]
  exact⟨fun h=>h.2,fun h=>⟨hp,h⟩⟩
 have h3:qX (fun _=>false)=1:=JL
 rw[Ck,←h2,h1,h3];omega
theorem Ro(b:Nat→Bool):(C9 b).Nodup:=by unfold C9;exact List.nodup_range.filter _
structure ZM(D D':Int→Option Sp)(V:Nat→Nat→Int)(f t:Int):Prop where
 pr:∀l r,r<1024→oV D' l r=if l=t then oV D f r else oV D l r
 rd:∀(U:Nat→Nat→Int) l r y,r<1024→kJ D' U l r y=if l=t then kJ D U f r y else kJ D U l r y
 dom:∀l,(D' l).isSome=if l=t then true else(D l).isSome
section
variable {W0 w:World} {I:lH} {q c:Nat} {Q:Nat→Nat} {V:Nat→Nat→Int} {Lb:List Nd} {G:Int→Option Pc} {D:Int→Option Sp}
theorem Oo.fork{D':Int→Option Sp}{f t:Int}{K:Sp}(hf:D f=some K)(hft:t≠f)(h:Oo (aT D t (some qg)) D' V t f (C9 fun p=>(K p).1)):ZM D D' V f t:=by
 have e1:∀r,oV (aT D t (some qg)) f r=oV D f r:=fun r=>by rw[oD,if_neg (fun e=>hft e.symm)]
 refine⟨fun l r hr=>?_,fun U l r y hr=>?_,fun l=>?_⟩
 ·rw[h.pr]
  by_cases e:l=t
  ·rw[if_pos e,if_pos e,bL hf,Bool.eq_iff_iff,decide_eq_true_iff,pX]
   exact⟨fun h=>h.2,fun h=>⟨hr,h⟩⟩
  ·rw[if_neg e,if_neg e,oD,if_neg e]
 ·rw[h.rd]
  by_cases e:l=t
  ·rw[if_pos e,if_pos e,oF,if_neg (show ¬f=t from fun e=>hft e.symm)]
   by_cases hm:r∈C9 fun p=>(K p).1
   ·rw[if_pos hm]
   ·rw[if_neg hm]
    refine(Od ?_ U y).symm
    rw[bL hf]
    cases hx:(K r).1 with
    |false=>rfl
    |true=>exact absurd ((pX _ r).2 ⟨hr,hx⟩) hm
  ·rw[if_neg e,if_neg e,oF,if_neg e]
 ·rw[h.dom]
  by_cases e:l=t
  ·subst e;rw[aQ,if_pos rfl];rfl
  ·rw[aI _ _ _ e,if_neg e]
set_option maxHeartbeats 8000000 in
theorem eB.fork(h:eB W0 w I q c D Q V Lb G iw (PG G))(f t:Int)(h0:yF G Lb f t=0){p:Pc}{K:Sp}(hGf:G f=some p)(hDf:D f=some K):
  Calls Tryz.prog 43 #[.pointer (some ⟨I.ss,0,none⟩), .int .i64 f, .int .i64 t] w fun e w'=>(aM Lb t<(bY K:Int)∧e= .returned (.int .i64 3)∧Below w.heap.size w w')∨((bY K:Int)≤aM Lb t∧e= .returned (.int .i64 0)∧au w w'∧(1≤t∧t≤8)∧G t=none∧∃s c' D' Q',s.ar=p.ar∧eB W0 w' I q c' D' Q' V (aD Lb t (bY K:Int)) (dF G t s) iw (PG (dF G t s))∧ZM D D' V f t∧c'<c):=by
 obtain⟨hid,hN,ZN⟩:(nX f&&nX t)=true∧(aH t Lb).isSome=true∧G t=none:=by
  unfold yF at h0
  cases hid:(nX f&&nX t)with
  |false=>rw[hid]at h0;cases h0
  | true=>
   rw[hid,hGf]at h0
   cases hN:aH t Lb with
   |none=>rw[hN]at h0;cases h0
   |some nd=>
    rw[hN]at h0
    cases ZN:G t with
    |none=>exact⟨rfl,rfl,rfl⟩
    |some u=>rw[ZN]at h0;cases h0
 have hft:t≠f:=fun e=>by rw[e,hGf]at ZN;cases ZN
 obtain⟨hf1,ht1⟩:nX f=true∧nX t=true:=by simpa using hid
 have hf:=wM.1 hf1
 have ht:=wM.1 ht1
 have AK:=Lib.hid (Vm (some ⟨I.ss,0,none⟩) true f t w h.abH (er:=0) (by rw[abI,hid];rfl))
 have MP:=Lib.hid h.maps
 have IC:=Lib.hid (show ∀W,Below w.heap.size w W→Calls Tryz.prog 92 #[.pointer (some ⟨I.ss,0,none⟩), .int .i64 t] W fun e w'=>e= .returned (.bool true)∧Below W.heap.size W w' from fun W hb=>by have:=(h.bl.step hb).sZ t;rwa [hN]at this)
 have HB:=Lib.hid (show jF G f=some p.blk by simp[hGf])
 have HT:=Lib.hid (show jF G t=none by simp[ZN])
 have hcK:1≤bY K∧bY K≤2000:=by
  unfold bY uY zA rz
  have h1:=List.length_filter_le (hasB K) (List.range 32)
  have h2:=List.length_filter_le (fun p=>(K p).1) (List.range 1024)
  rw[List.length_range]at h1 h2
  omega
 have ND:=Lib.hid (YT K)
 have CT:=Lib.hid (show ∀W,Below w.heap.size w W→_ from fun W hb=>(h.step hb).bl.cost hGf hDf)
 obtain⟨cf,hcf⟩:∃cf,cf=bY K:=⟨_,rfl⟩
 rw[←hcf]at hcK ND CT ⊢
 have OP:=Lib.hid (show ∀W,Below w.heap.size w W→_ from fun W hb=>(h.step hb).ze ht ZN (by intro e;rw[e]at hN;cases hN) cf ⟨hcK.1,by omega⟩)
 have H:=Lib.hid h
 have HX:=Lib.hid (And.intro hGf (And.intro hDf ZN))
 obtain⟨a0,cc0,hv0⟩:=(h.bl.area hGf).1.form
 have HV:=Lib.hid hv0
 clear h hGf hDf ZN hN hid hf1 ht1 hcf hcK h0 hv0
 go_enter Tryz.func43,Tryz.ntmps43
 go_wp2_with fail
 refine AK.out.mono ?_
 rintro e w1 ⟨rfl,hb⟩
 have B1:=Lib.hid hb
 obtain⟨c5,hmp⟩:=MP.out w1 hb
 have M1:=Lib.hid hmp
 clear hmp hb
 go_wp2_with(refine qZ _ rfl (.tmp 22) (.tmp 23) rfl I.mm (jF G) rfl M1.out f rfl (by omega) p.blk HB.out ?_)
 refine(IC.out w1 B1.out).mono ?_
 rintro e w2 ⟨rfl,hb⟩
 have B2:=Lib.hid (B1.out.trans (hb.mono B1.out.size))
 obtain⟨c6,hmp⟩:=MP.out w2 B2.out
 have M2:=Lib.hid hmp
 clear hb hmp c5
 go_wp2_with(refine qY _ rfl (.tmp 38) (.tmp 39) rfl I.mm (jF G) rfl M2.out t rfl (by omega) HT.out ?_)
 refine(CT.out w2 B2.out).mono ?_
 rintro e w3 ⟨rfl,hb⟩
 have B3:=Lib.hid (B2.out.trans (hb.mono B2.out.size))
 clear hb c6
 go_wp2_with fail
 refine(OP.out w3 B3.out).mono ?_
 rintro e w4 (⟨hl,rfl,hb⟩|⟨hl,s,c4,hs,rfl,hst,hk,hc4⟩)
 ·have B4:=Lib.hid (B3.out.trans (hb.mono B3.out.size))
  have LL:=Lib.hid hl
  clear hb hl
  go_wp2_with fail
  go_ret
  exact Or.inl ⟨LL.out,rfl,B4.out⟩
 ·have S4:=Lib.hid hst
  have HC4:=Lib.hid hc4
  clear hc4
  have K4:=Lib.hid ((au.below B3.out).trans hk)
  have LL:=Lib.hid hl
  have VK:dF G t s f=some p:=by rw[bg _ _ _ (fun e=>hft e.symm)];exact HX.out.1
  have HG4:=Lib.hid VK
  obtain⟨W,Pb,hbig,q8⟩:=hst.bl
  have hgo:=hbig.Kv (putG_same G t s) (hbig.sp f p VK).2.1 (hbig.sp f p VK).2.2
  rw[Fb]at hgo
  have E5:Hid (Ends W0 w4 (w4.setCell ⟨s.blk,2,none⟩ p.v) I c4 Q V (aD Lb t (cf:Int)) (dF G t (Kv s p.v p.ar)) (aT D t (some qg))):=Lib.hid (by
   obtain⟨⟨Pb',hb'⟩,hk'⟩:=hgo
   refine⟨⟨W,Pb',hb',?_⟩,hk'⟩
   have:=q8.ar (putG_same G t s) p.v p.ar
   rwa [Fb]at this)
  have g2:=(hbig.jh VK).2.2
  have d2:=(hbig.jh (putG_same G t s)).2.2
  have f2:=frozen_of_row w4 s.blk 2 _ _ (hbig.sp t s (putG_same G t s)).1
  rw[HV.out]at g2
  rw[HV.out]at E5
  clear hbig q8 hgo hst hk hl VK hs
  go_wp2_with fail
  obtain⟨w5,XU⟩:∃w5,w5=w4.setCell ⟨s.blk,2,none⟩ (.slice a0 p.ar.length cc0):=⟨_,rfl⟩
  rw[←XU]at E5 ⊢
  clear XU g2 d2 f2
  have HG5:Hid (dF G t (Kv s (.slice a0 p.ar.length cc0) p.ar) f=some p):=Lib.hid (by rw[bg _ _ _ (fun e=>hft e.symm)];exact HX.out.1)
  have HD5:Hid (aT D t (some qg) f=some K):=Lib.hid (by rw[aI _ _ _ (fun e=>hft e.symm)];exact HX.out.2.1)
  have S5:Hid (eB W0 w5 I q c4 (aT D t (some qg)) Q V (aD Lb t (cf:Int)) (dF G t (Kv s (.slice a0 p.ar.length cc0) p.ar)) (single t (bU (fun _=>false) (C9 fun p=>(K p).1))) (PG (dF G t (Kv s (.slice a0 p.ar.length cc0) p.ar)))):=Lib.hid (by
   refine⟨E5.out.1,?_⟩
   have e1:cf-1=bU (fun _=>false) (C9 fun p=>(K p).1):=by have:=ND.out;omega
   rw[←e1]
   refine S4.out.j.pages fun j F' r hj hr hF=>?_
   rcases fD hj with⟨_,rfl⟩|⟨hne,_⟩
   ·cases hF
   ·unfold PG;rw[bg _ _ _ hne,bg _ _ _ hne])
  refine(E5.out.1.mapped HG5.out HD5.out).mono ?_
  rintro e w6 ⟨v6,rfl,ho,hb6⟩
  have B6:=Lib.hid hb6
  have V6:=Lib.hid (jQ.mD ho)
  clear ho hb6
  go_wp2_with fail
  refine(YR I.ss p.blk s.blk w6).mono ?_
  rintro e w7 ⟨b2,b3,b4,rfl,hcap,hb4,hb7⟩
  have B7:=Lib.hid (B6.out.trans (hb7.mono B6.out.size))
  have C7:=Lib.hid hcap
  have P7:=Lib.hid hb4
  have V7:=Lib.hid (V6.out.keep (au.below hb7))
  clear hcap hb4 hb7
  go_wp2_with fail
  have WK:=Lib.hid (show Calls Tryz.prog 95 #[.pointer (some ⟨I.ss,0,none⟩), .pointer (some ⟨p.blk,0,none⟩),v6, .func (.func 158) #[] #[.pointer (some ⟨b2,0,none⟩), .pointer (some ⟨b3,0,none⟩), .pointer (some ⟨b4,0,none⟩)]] w7 _ from eB.Rn (S5.out.step B7.out) (putG_same _ _ _) (aQ _ _ _) HG5.out HD5.out hft rfl C7.out P7.out V7.out (by unfold C9;exact Nat.le_trans (List.length_filter_le _ _) (by simp)) (Ro _) (fun r hr=>⟨((pX _ r).1 hr).1,((pX _ r).1 hr).2⟩))
  refine WK.out.mono ?_
  rintro e w8 ⟨rfl,c8,D8,Q8,hs8,hk8,hd8,hc8⟩
  have C8:=Lib.hid (Nat.lt_of_le_of_lt hc8 HC4.out)
  have S8:=Lib.hid hs8
  have K8:=Lib.hid (((K4.out.trans E5.out.2).trans (au.below B7.out)).trans hk8)
  have D8':=Lib.hid hd8
  clear hs8 hk8 hd8 hc8
  go_wp2_with fail
  go_ret
  exact Or.inr ⟨LL.out,rfl,K8.out,ht,by first|trivial|exact HX.out.2.2,Kv s (.slice a0 p.ar.length cc0) p.ar,c8,D8,Q8,rfl,S8.out,D8'.out.fork HX.out.2.1 hft,C8.out⟩
end
end
end Go.Proofs.YtammlljefhakmaaGreatDoor
