/- Helps of the proof. No condition. -/
import Derived.Test.YtammlljefhakmaaGreatDoorHM
import Derived.BigQuiet
namespace Go.Proofs.YtammlljefhakmaaGreatDoor
open Go.RowKit Go.Maps
set_option maxRecDepth 100000
def Gm(b:Bool)(q f:Nat):fQ:=if b=true then(if q=1 then(true,true,false,(f:Int))else(true,false,true,(f:Int)))else(true,false,false,(f:Int))
theorem IZ{w k:Bool}{f:Nat}(h:w=false∨k=false)(hf:f<1024):nM true w k (f:Int)=true:=by
 unfold nM
 rcases h with rfl|rfl<;>simp<;>omega
theorem Di{w k:Bool}{f:Nat}(h:w=false∨k=false)(hf:f<1024):Qn true w k (f:Int)=true:=by
 unfold Qn;rw[IZ h hf];rfl
theorem Oo(b:Bool)(q f:Nat):∃x k,Gm b q f=(true,x,k,(f:Int))∧(x=false∨k=false)∧b=(x||k)∧(x=true→q=1):=by
 unfold Gm
 cases b with
 |false=>exact⟨false,false,rfl,Or.inl rfl,rfl,by simp⟩
 |true=>
  by_cases h:q=1
  ·rw[if_pos rfl,if_pos h];exact⟨true,false,rfl,Or.inr rfl,rfl,fun _=>h⟩
  ·rw[if_pos rfl,if_neg h];exact⟨false,true,rfl,Or.inl rfl,rfl,by simp⟩
theorem TI(b:Bool)(q f:Nat)(hq:1≤q)(hf:f<1024)(W:World){x k:Bool}(he:Gm b q f=(true,x,k,(f:Int))):Calls Tryz.prog 223 #[ent true false false (f:Int), .int .i64 (q:Int), .bool b] W fun e w'=>e= .returned (.tuple #[ent true x k (f:Int), .int .i64 0])∧Below W.heap.size W w':=by
 have hp:=Di (w:=false) (k:=false) (Or.inl rfl) hf
 unfold Gm at he
 cases b with
 |false=>cases he;exact Tq false false (f:Int) (q:Int) W hp (by omega)
 |true=>
  by_cases h:q=1
  ·rw[if_pos rfl,if_pos h]at he;cases he;subst h;exact Oi false false (f:Int) W hp
  ·rw[if_pos rfl,if_neg h]at he;cases he;exact Tt false false (f:Int) (q:Int) W hp (by omega)
section
variable {W0 w:World} {I:lK} {c:Nat} {Q:Nat→Nat} {V:Nat→Nat→Int} {Lb:List Nd} {G:Int→Option Pc} {D:Int→Option Sp}
set_option maxHeartbeats 2000000 in
theorem BL.Xh(h:BL W0 w I c Q V Lb G D){i:Int}{s:Pc}{F:Sp}(hG:G i=some s)(hD:D i=some F){p f:Nat}(hp:p<1024)(hF:(F p).1=true)(hf:f<I.n)(hQ:Q f≠0)(b:Bool){x k:Bool}(he:Gm b (Q f) f=(true,x,k,(f:Int))):
  Calls Tryz.prog 186 #[.pointer (some ⟨I.ss,0,none⟩), .pointer (some ⟨s.blk,0,none⟩), .int .i64 (p:Int), .int .i64 (f:Int), .bool b] w fun e w'=>e= .returned (.int .i64 0)∧Ends W0 w w' I c Q V Lb G (aV D i (some (aI F p (true,x,k,(f:Int))))):=by
 have hn:=h.mo.1
 obtain⟨x',k',e1,e2,e3,e4⟩:=Oo b (Q f) f
 rw[he]at e1
 obtain⟨rfl,rfl⟩:x=x'∧k=k':=by simpa using e1
 have hfit:mU I.n (true,x,k,(f:Int)):=⟨rfl,by simp only;omega,IZ e2 (by omega)⟩
 have H:=Lib.hid h
 have CS:Hid (∀W,Calls Tryz.prog 223 #[ent true false false (f:Int), .int .i64 ((Q f:Nat):Int), .bool b] W fun e w'=>e= .returned (.tuple #[ent true x k (f:Int), .int .i64 0])∧Below W.heap.size W w'):=Lib.hid fun W=>TI b (Q f) f (by omega) (by omega) W he
 have RF:=Lib.hid (h.refs f hQ)
 have HX:=Lib.hid (show ∀W',Below w.heap.size w W'→Calls Tryz.prog 161 #[.pointer (some ⟨I.tb,0,none⟩), .int .i64 (s.root:Int), .int .i64 (p:Int),ent true x k (f:Int)] W' fun e w'=>e= .returned (.int .i64 0)∧Ends W0 W' w' I c Q V Lb G (aV D i (some (aI F p (true,x,k,(f:Int)))))from fun W' hb=>(h.step hb).set hG hD hp hF hfit)
 have HG:=Lib.hid hG
 have c1:=h.cells.2.1
 clear h he e1 e2 e3 e4 hfit hQ hF hG
 generalize Q f=q at CS RF
 go_enter Tryz.func186,Tryz.ntmps186
 go_wp2_with(first
  |(go_at_call 189;refine RF.out.mono ?_;rintro e w1 ⟨rfl,rfl⟩)
  |(go_at_call 223;refine(CS.out _).mono ?_;rintro e w2 ⟨rfl,hb2⟩;have B2:=Lib.hid hb2;obtain⟨w3,hw3⟩:∃w3,w3=w2.alloc (.cells #[.bool true, .bool x, .bool k, .int .i64 (f:Int)] 217):=⟨_,rfl⟩;have B3:Hid (Below w.heap.size w w3):=Lib.hid (by rw[hw3];exact hb2.alloc hb2.size _);have E3:w3.heap[w2.heap.size]? =some (eU (true,x,k,(f:Int))):=(by rw[hw3];exact heap_alloc_new w2 _);clear hb2))
 rw[←hw3]
 clear hw3
 have H3:=Lib.hid (H.out.step B3.out)
 have d4:=H3.out.cells.2.2.2.2.1
 have d1:=(H3.out.iK HG.out).2.1
 obtain⟨m0,m1,m2,m3⟩:=aU E3
 simp only at m0 m1 m2 m3
 clear E3
 go_still_tail 10,(by kernel_rfl)
 go_wp2_with((go_at_call 161;with_reducible refine(HX.out w3.drew B3.out.drew).mono ?_);rintro e w4 ⟨rfl,h4⟩;have H4:=Lib.hid h4;clear h4)
 go_ret
 exact⟨rfl,Ends.ahead B3.out.drew H4.out⟩
end
end Go.Proofs.YtammlljefhakmaaGreatDoor
namespace Go.Proofs.YtammlljefhakmaaGreatDoor
open Go.RowKit Go.Maps
set_option maxRecDepth 100000
structure Cap(w:World)(b2 b3 ss blk:Nat):Prop where
 h2:w.heap[b2]? =some (.cells #[.pointer (some ⟨ss,0,none⟩)] 34 (0,0))
 h3:w.heap[b3]? =some (.cells #[.pointer (some ⟨blk,0,none⟩)] 127 (0,0))
theorem Cap.keep{w w':World}{b2 b3 ss blk:Nat}(h:Cap w b2 b3 ss blk)(k:ay w w'):Cap w' b2 b3 ss blk:=⟨k.box h.h2 (by decide),k.box h.h3 (by decide)⟩
theorem Cap.below{w w':World}{b2 b3 ss blk:Nat}(h:Cap w b2 b3 ss blk)(k:Below w.heap.size w w'):Cap w' b2 b3 ss blk:=h.keep (ay.below k)
theorem Cap.c2{w:World}{b2 b3 ss blk:Nat}(h:Cap w b2 b3 ss blk):w.cell? ⟨b2,0,none⟩=some (.pointer (some ⟨ss,0,none⟩)):=by rw[cell_of_row _ _ _ _ _ _ h.h2];rfl
theorem Cap.c3{w:World}{b2 b3 ss blk:Nat}(h:Cap w b2 b3 ss blk):w.cell? ⟨b3,0,none⟩=some (.pointer (some ⟨blk,0,none⟩)):=by rw[cell_of_row _ _ _ _ _ _ h.h3];rfl
theorem Es(args:Array Value)(W:World):(callFunc 184 args).run Tryz.prog W= .ok (.enter 184 args) W:=enters Tryz.func184 rfl rfl args W
section
variable {W0 w:World} {I:lK} {c:Nat} {Q:Nat→Nat} {V:Nat→Nat→Int} {Lb:List Nd} {G:Int→Option Pc} {D:Int→Option Sp}
theorem I4(b2 b3:Nat)(p:Int)(x1 x2:Bool)(g:Int)(w:World):Calls Tryz.prog 184 #[.int .i64 p,ent true x1 x2 g, .pointer (some ⟨b2,0,none⟩), .pointer (some ⟨b3,0,none⟩)] w fun e w'=>e= .returned (.int .i64 0)∧Below w.heap.size w w':=by
 have B:Hid (Below w.heap.size w (w.alloc (.cells #[.bool true, .bool x1, .bool x2, .int .i64 g] 217))):=Lib.hid ((Below.refl _ _).alloc (Nat.le_refl _) _)
 go_enter Tryz.func184,Tryz.ntmps184
 go_wp2
 go_ret
 exact⟨rfl,B.out⟩
def Qr(wr:Bool)(x:Nat):fQ:=(true,wr,false,(x:Int))
theorem XC(wr:Bool)(x:Nat):Gm wr 1 x=Qr wr x:=by cases wr<;>rfl
set_option maxHeartbeats 4000000 in
theorem BL.adA(h:BL W0 w I c Q V Lb G D){i:Int}{s:Pc}{F:Sp}(hG:G i=some s)(hD:D i=some F){b2 b3 p:Nat}(hcap:Cap w b2 b3 I.ss s.blk)(hp:p<1024)(hF:(F p).1=false){wr:Bool}(ha:fF s.ar (p:Int)=some wr)(hc:1+newT F p≤c):
  Calls Tryz.prog 184 #[.int .i64 (p:Int),ent false false false 0, .pointer (some ⟨b2,0,none⟩), .pointer (some ⟨b3,0,none⟩)] w fun e w'=>e= .returned (.int .i64 0)∧∃x:Nat,x<I.n∧Q x=0∧Ends W0 w w' I (c-1-newT F p) (upd Q x 1) (jK V x) Lb G (aV D i (some (aI F p (Qr wr x)))):=by
 have hn:=h.mo.1
 obtain⟨w1,hw1⟩:∃w1,w1=w.alloc (.cells #[.bool false, .bool false, .bool false, .int .i64 0] 217):=⟨_,rfl⟩
 have B1:Hid (Below w.heap.size w w1):=Lib.hid (by rw[hw1];exact(Below.refl _ _).alloc (Nat.le_refl _) _)
 have H1:=Lib.hid (h.step B1.out)
 have C1:=Lib.hid (hcap.below B1.out)
 have HX:=Lib.hid (And.intro hG (And.intro hD (And.intro hF ha)))
 have y2:=C1.out.c2
 have y3:=C1.out.c3
 have c1:=H1.out.cells.2.1
 have c2:=H1.out.cells.2.2.1
 have hf0:w1.cell? ⟨w.heap.size,0,none⟩=some (.bool false):=by rw[hw1,cell_of_row _ _ _ _ _ _ (heap_alloc_new w _)];rfl
 clear h hcap hG hD hF ha
 go_enter Tryz.func184,Tryz.ntmps184
 go_wp2_with fail
 rw[←hw1]
 clear hw1
 have AL:=Lib.hid ((H1.out.step (Below.refl _ _).drew).alloc (by omega))
 go_region_held3 (fun w'=>w'.cell? ⟨b2,0,none⟩=some (.pointer (some ⟨I.ss,0,none⟩))∧w'.cell? ⟨I.ss,1,none⟩=some (.pointer (some ⟨I.X.pb,0,none⟩))∧w'.cell? ⟨I.ss,2,none⟩=some (.int .i64 0)) (first|go_keep|exact⟨y2,c1,c2⟩)
  (first
   |((go_at_call 185;with_reducible refine AL.out.mono ?_);rintro e w2 ⟨x,hx,hq,rfl,h2⟩;have E2:=Lib.hid (Ends.ahead B1.out.drew h2);have C2:=Lib.hid ((C1.out.below (Below.refl _ _).drew).keep h2.2);have y2:=C2.out.c2;have c1:=E2.out.1.cells.2.1;have c2:=E2.out.1.cells.2.2.1;clear h2))
 have QX:=Lib.hid hq
 have y2:=C2.out.c2
 have y3:=C2.out.c3
 have c4:=E2.out.1.cells.2.2.2.2.1
 have s1:=(E2.out.1.iK HX.out.1).2.1
 clear hq c1 c2 hf0
 go_wp2_with fail
 go_still_tail 11,(by kernel_rfl)
 go_wp2_with fail
 refine((E2.out.1.step (Below.refl _ _).drew).map HX.out.1 HX.out.2.1 hp HX.out.2.2.1 (x0:=true) (x1:=false) (x2:=false) (g:=(x:Int)) ⟨rfl,by simp only;omega,IZ (Or.inl rfl) (by omega)⟩ (by omega)).mono ?_
 rintro e w3 ⟨rfl,h3⟩
 have E3:=Lib.hid (E2.out.next (Ends.ahead (Below.refl _ _).drew h3))
 have C3:=Lib.hid ((C2.out.below (Below.refl _ _).drew).keep h3.2)
 have y2:=C3.out.c2
 have y3:=C3.out.c3
 have s2:=(E3.out.1.iK HX.out.1).2.2
 clear h3 c4 s1
 go_wp2_with fail
 refine(Ls s.ar s.v (p:Int) _ (E3.out.1.area HX.out.1).1.at_ (o:=some wr) (Or.inl ⟨(E3.out.1.area HX.out.1).2,HX.out.2.2.2.symm⟩)).mono ?_
 rintro e w4 ⟨rfl,hb4⟩
 have E4:=Lib.hid (E3.out.behind hb4)
 have C4:=Lib.hid (C3.out.below hb4)
 have y2:=C4.out.c2
 have y3:=C4.out.c3
 clear hb4 s2
 go_wp2_with fail
 refine(E4.out.1.Xh HX.out.1 (aR _ _ _) hp (f:=x) (by rw[aC]) hx (by rw[upd_same];decide) wr (x:=wr) (k:=false) (by rw[upd_same,XC];rfl)).mono ?_
 rintro e w5 ⟨rfl,h5⟩
 have E5:=Lib.hid (E4.out.next h5)
 clear h5
 go_wp2_with fail
 go_ret
 have:=E5.out
 rw[Gh,uI]at this
 exact⟨rfl,x,hx,QX.out,this⟩
end
end Go.Proofs.YtammlljefhakmaaGreatDoor
namespace Go.Proofs.YtammlljefhakmaaGreatDoor
open Go.RowKit Go.Maps
set_option maxRecDepth 100000
theorem XD(a b:Value)(p:Int)(x0 x1 x2:Bool)(g:Int)(w:World):Calls Tryz.prog 225 #[a,b, .int .i64 p,ent x0 x1 x2 g] w fun e w'=>e= .returned (.int .i64 0)∧Below w.heap.size w w':=by
 have B:Hid (Below w.heap.size w (w.alloc (.cells #[.bool x0, .bool x1, .bool x2, .int .i64 g] 217))):=Lib.hid ((Below.refl _ _).alloc (Nat.le_refl _) _)
 go_enter Tryz.func225,Tryz.ntmps225
 go_wp2
 go_ret
 exact⟨rfl,B.out⟩
section
variable {W0 w:World} {I:lK} {c:Nat} {Q:Nat→Nat} {V:Nat→Nat→Int} {Lb:List Nd} {G:Int→Option Pc} {D:Int→Option Sp}
set_option maxHeartbeats 2000000 in
theorem BL.own(h:BL W0 w I c Q V Lb G D){i:Int}{s:Pc}{F:Sp}(hG:G i=some s)(hD:D i=some F){p f:Nat}(hp:p<1024)(hF:(F p).1=true)(hf:f<I.n)(hQ:Q f=1)(x0 x1 x2:Bool):
  Calls Tryz.prog 226 #[.pointer (some ⟨I.ss,0,none⟩), .pointer (some ⟨s.blk,0,none⟩), .int .i64 (p:Int),ent x0 x1 x2 (f:Int)] w fun e w'=>e= .returned (.int .i64 0)∧Ends W0 w w' I c Q V Lb G (aV D i (some (aI F p (true,true,false,(f:Int))))):=by
 have B1:Hid (Below w.heap.size w (w.alloc (.cells #[.bool x0, .bool x1, .bool x2, .int .i64 (f:Int)] 217))):=Lib.hid ((Below.refl _ _).alloc (Nat.le_refl _) _)
 have ST:=Lib.hid ((h.step B1.out).Xh hG hD hp hF hf (by omega) true (x:=true) (k:=false) (by rw[hQ];rfl))
 clear h hG hD hF
 go_enter Tryz.func226,Tryz.ntmps226
 go_wp2_with fail
 refine ST.out.mono ?_
 rintro e w2 ⟨rfl,h2⟩
 have E2:=Lib.hid (Ends.ahead B1.out h2)
 clear h2
 go_wp2
 go_ret
 exact⟨rfl,E2.out⟩
set_option maxHeartbeats 4000000 in
theorem BL.duplicate(h:BL W0 w I c Q V Lb G D){i:Int}{s:Pc}{F:Sp}(hG:G i=some s)(hD:D i=some F){p f:Nat}(hp:p<1024)(hF:(F p).1=true)(hf:f<I.n)(hQ:1<Q f)(hc:c≠0)(x0 x1 x2:Bool):
  Calls Tryz.prog 227 #[.pointer (some ⟨I.ss,0,none⟩), .pointer (some ⟨s.blk,0,none⟩), .int .i64 (p:Int),ent x0 x1 x2 (f:Int)] w fun e w'=>e= .returned (.int .i64 0)∧∃x:Nat,x<I.n∧Q x=0∧Ends W0 w w' I (c-1) (upd (upd Q x 1) f (Q f-1)) (copyV (jK V x) x f) Lb G (aV D i (some (aI F p (true,true,false,(x:Int))))):=by
 obtain⟨w1,hw1⟩:∃w1,w1=w.alloc (.cells #[.bool x0, .bool x1, .bool x2, .int .i64 (f:Int)] 217):=⟨_,rfl⟩
 have B1:Hid (Below w.heap.size w w1):=Lib.hid (by rw[hw1];exact(Below.refl _ _).alloc (Nat.le_refl _) _)
 have N1:Hid (w1.heap[w.heap.size]? =some (eU (x0,x1,x2,(f:Int)))):=Lib.hid (by rw[hw1];exact heap_alloc_new w _)
 have H1:=Lib.hid (h.step B1.out)
 have HX:=Lib.hid (And.intro hG (And.intro hD hF))
 have c1:=H1.out.cells.2.1
 have c2:=H1.out.cells.2.2.1
 have AL:=Lib.hid ((H1.out.step (Below.refl _ _).drew).alloc hc)
 clear h hG hD hF
 go_enter Tryz.func227,Tryz.ntmps227
 go_wp2_with fail
 rw[←hw1]
 clear hw1
 go_region_held3 (fun w'=>w'.cell? ⟨I.ss,1,none⟩=some (.pointer (some ⟨I.X.pb,0,none⟩))∧w'.cell? ⟨I.ss,2,none⟩=some (.int .i64 0)) (first|go_keep|exact⟨c1,c2⟩)
  (first
   |((go_at_call 185;with_reducible refine AL.out.mono ?_);rintro e w2 ⟨x,hx,hq,rfl,h2⟩;have E2:=Lib.hid (Ends.ahead B1.out.drew h2);have N2:Hid (w2.heap[w.heap.size]? =some (eU (x0,x1,x2,(f:Int)))):=Lib.hid (h2.2.box (below_block (Below.refl _ _).drew N1.out) (by decide));have c1:=E2.out.1.cells.2.1;have c2:=E2.out.1.cells.2.2.1;clear h2))
 have hne:x≠f:=by rintro rfl;omega
 have QX:=Lib.hid hq
 have c0:=E2.out.1.cells.1
 obtain⟨_,_,_,n3⟩:=aU N2.out
 simp only at n3
 clear hq c1 c2
 go_wp2_with fail
 go_still_tail 7,(by kernel_rfl)
 go_wp2_with fail
 refine((E2.out.1.step (Below.refl _ _).drew).copy x f (by rw[aB _ _ _ _ (fun e=>hne e.symm)];omega) (by rw[upd_same];decide)).mono ?_
 rintro e w3 ⟨rfl,h3⟩
 have E3:=Lib.hid (E2.out.next (Ends.ahead (Below.refl _ _).drew h3))
 have N3:Hid (w3.heap[w.heap.size]? =some (eU (x0,x1,x2,(f:Int)))):=Lib.hid (h3.2.box (below_block (Below.refl _ _).drew N2.out) (by decide))
 clear h3 c0 n3
 go_wp2_with fail
 refine(E3.out.1.Xh HX.out.1 HX.out.2.1 hp HX.out.2.2 (f:=x) hx (by rw[upd_same];decide) true (x:=true) (k:=false) (by rw[upd_same];rfl)).mono ?_
 rintro e w4 ⟨rfl,h4⟩
 have E4:=Lib.hid (E3.out.next h4)
 have N4:Hid (w4.heap[w.heap.size]? =some (eU (x0,x1,x2,(f:Int)))):=Lib.hid (h4.2.box N3.out (by decide))
 have c1:=E4.out.1.cells.2.1
 obtain⟨_,_,_,n3⟩:=aU N4.out
 simp only at n3
 clear h4
 go_wp2_with fail
 go_still_tail 6,(by kernel_rfl)
 go_wp2_with fail
 refine((E4.out.1.step (Below.refl _ _).drew).free f (by rw[aB _ _ _ _ (fun e=>hne e.symm)];omega)).mono ?_
 rintro e w5 ⟨rfl,h5⟩
 have E5:=Lib.hid (E4.out.next (Ends.ahead (Below.refl _ _).drew h5))
 clear h5 c1 n3
 go_wp2_with fail
 go_ret
 have:=E5.out
 rw[aB _ _ _ _ (fun e=>hne e.symm),if_neg (by omega)]at this
 exact⟨rfl,x,hx,QX.out,this⟩
end
def XE:Value:= .agg #[.nilFunc, .func (.func 225) #[] #[], .func (.func 226) #[] #[], .func (.func 227) #[] #[]]
theorem Dj(P:Program)(w:World)(a:Addr)(m:Mode):(store a .nilFunc m).run P w=stored P w a .nilFunc m:=run_store P w a _ m rfl
theorem I5(P:Program)(w:World)(k:Nat)(a:Addr)(m:Mode):(store a (.func (.func k) #[] #[]) m).run P w=stored P w a (.func (.func k) #[] #[]) m:=run_store P w a _ m rfl
attribute [local go_sem] Dj I5
theorem aaz(w:World):Calls Tryz.prog 190 #[] w fun e w'=>e= .returned XE∧Below w.heap.size w w':=by
 obtain⟨w1,hw1⟩:∃w1,w1=w.alloc (.cells #[.nilFunc, .nilFunc, .nilFunc, .nilFunc] 273):=⟨_,rfl⟩
 have N1:w1.heap[w.heap.size]? =some (.cells #[.nilFunc, .nilFunc, .nilFunc, .nilFunc] 273 (0,0)):=by rw[hw1];exact heap_alloc_new w _
 have B1:Below w.heap.size w w1:=by rw[hw1];exact(Below.refl _ _).alloc (Nat.le_refl _) _
 have f:=fun i=>frozen_of_row _ w.heap.size i _ _ N1
 have f0:=f 0
 have f1:=f 1
 have f2:=f 2
 have f3:=f 3
 have cc:=fun i=>cell_of_row _ w.heap.size i _ _ _ N1
 have c0:w1.cell? ⟨w.heap.size,0,none⟩=some .nilFunc:=cc 0
 have c1:w1.cell? ⟨w.heap.size,1,none⟩=some .nilFunc:=cc 1
 have c2:w1.cell? ⟨w.heap.size,2,none⟩=some .nilFunc:=cc 2
 have c3:w1.cell? ⟨w.heap.size,3,none⟩=some .nilFunc:=cc 3
 have B2:=Lib.hid ((((B1.setCell (p:=⟨w.heap.size,0,none⟩) (Nat.le_refl _) .nilFunc).setCell (p:=⟨w.heap.size,1,none⟩) (Nat.le_refl _) (.func (.func 225) #[] #[])).setCell (p:=⟨w.heap.size,2,none⟩) (Nat.le_refl _) (.func (.func 226) #[] #[])).setCell (p:=⟨w.heap.size,3,none⟩) (Nat.le_refl _) (.func (.func 227) #[] #[]))
 clear N1 B1 f cc
 subst hw1
 go_enter Tryz.func190,Tryz.ntmps190
 go_wp2
 exact bodyPost_ret (v:=XE) (by simp[results,Tryz.results190,XE,go_sem]) rfl ⟨rfl,by first|exact B2.out|exact(Below.refl _ _).alloc (Nat.le_refl _) _⟩
end Go.Proofs.YtammlljefhakmaaGreatDoor
namespace Go.Proofs.YtammlljefhakmaaGreatDoor
open Go.RowKit Go.Maps
set_option maxRecDepth 100000
theorem Et(args:Array Value)(W:World):(callFunc 187 args).run Tryz.prog W= .ok (.enter 187 args) W:=enters Tryz.func187 rfl rfl args W
theorem XF(w:World):Calls Tryz.prog 190 #[] w fun e w'=>e= .returned (.agg #[.nilFunc, .func (.func 225) #[] #[], .func (.func 226) #[] #[], .func (.func 227) #[] #[]])∧Below w.heap.size w w':=aaz w
theorem aaA(w:World):(Instr.index 273 (.agg #[.nilFunc, .func (.func 225) #[] #[], .func (.func 226) #[] #[], .func (.func 227) #[] #[]]) (.int .i64 1)).run Tryz.prog w= .ok (.agg #[.func (.func 225) #[] #[]]) w:=by kernel_rfl
theorem aaB(w:World):(Instr.index 273 (.agg #[.nilFunc, .func (.func 225) #[] #[], .func (.func 226) #[] #[], .func (.func 227) #[] #[]]) (.int .i64 2)).run Tryz.prog w= .ok (.agg #[.func (.func 226) #[] #[]]) w:=by kernel_rfl
theorem aaC(w:World):(Instr.index 273 (.agg #[.nilFunc, .func (.func 225) #[] #[], .func (.func 226) #[] #[], .func (.func 227) #[] #[]]) (.int .i64 3)).run Tryz.prog w= .ok (.agg #[.func (.func 227) #[] #[]]) w:=by kernel_rfl
theorem adB(k:Nat)(w:World):(Instr.field 272 (.agg #[.func (.func k) #[] #[]]) 0).run Tryz.prog w= .ok (.func (.func k) #[] #[]) w:=by kernel_rfl
attribute [local go_sem] adB aaA aaB aaC
section
variable {W0 w:World} {I:lK} {c:Nat} {Q:Nat→Nat} {V:Nat→Nat→Int} {Lb:List Nd} {G:Int→Option Pc} {D:Int→Option Sp}
set_option maxHeartbeats 4000000 in
theorem BL.yM(h:BL W0 w I c Q V Lb G D){s:Pc}{b2 b3 p f:Nat}(hcap:Cap w b2 b3 I.ss s.blk)(hQ:Q f≠0){x1 x2:Bool}{n:Nat}{k:Nat}(hent:∀(args:Array Value) (W:World),(callFunc k args).run Tryz.prog W= .ok (.enter k args) W)(hn:(n=1∧k=225)∨(n=2∧k=226)∨(n=3∧k=227))
    (afr:∀W,Calls Tryz.prog 188 #[ent true x1 x2 (f:Int), .int .i64 (Q f:Int)] W fun e w'=>e= .returned (.tuple #[.int .i64 (n:Int), .int .i64 0])∧Below W.heap.size W w')
    {P:World→Prop}(hdo:∀W,Below w.heap.size w W→Calls Tryz.prog k #[.pointer (some ⟨I.ss,0,none⟩), .pointer (some ⟨s.blk,0,none⟩), .int .i64 (p:Int),ent true x1 x2 (f:Int)] W fun e w'=>e= .returned (.int .i64 0)∧ay W w'∧P w'):
    Calls Tryz.prog 187 #[.int .i64 (p:Int),ent true x1 x2 (f:Int), .pointer (some ⟨b2,0,none⟩), .pointer (some ⟨b3,0,none⟩)] w fun e w'=>e= .returned (.int .i64 0)∧ay w w'∧P w':=by
  obtain⟨w1,hw1⟩:∃w1,w1=w.alloc (.cells #[.bool true, .bool x1, .bool x2, .int .i64 (f:Int)] 217):=⟨_,rfl⟩
  have B1:Hid (Below w.heap.size w w1):=Lib.hid (by rw[hw1];exact(Below.refl _ _).alloc (Nat.le_refl _) _)
  have N1:Hid (w1.heap[w.heap.size]? =some (eU (true,x1,x2,(f:Int)))):=Lib.hid (by rw[hw1];exact heap_alloc_new w _)
  have C1:=Lib.hid (hcap.below B1.out)
  have RF:=Lib.hid ((h.step (B1.out.drew)).refs f hQ)
  have CWR:=Lib.hid afr
  have DO:=Lib.hid hdo
  have FX:Hid (∀W,ay w1 W→(W.cell? ⟨b2,0,none⟩=some (.pointer (some ⟨I.ss,0,none⟩))∧W.cell? ⟨b3,0,none⟩=some (.pointer (some ⟨s.blk,0,none⟩)))∧W.cell? ⟨w.heap.size,0,none⟩=some (.bool true)∧W.cell? ⟨w.heap.size,1,none⟩=some (.bool x1)∧W.cell? ⟨w.heap.size,2,none⟩=some (.bool x2)∧W.cell? ⟨w.heap.size,3,none⟩=some (.int .i64 (f:Int))):=Lib.hid fun W hk=>
    ⟨⟨(C1.out.keep hk).c2,(C1.out.keep hk).c3⟩,aU (e:=(true,x1,x2,(f:Int))) (hk.box N1.out (by decide))⟩
  have c1:=(h.step B1.out).cells.2.1
  obtain⟨⟨y2,y3⟩,m0,m1,m2,m3⟩:=FX.out w1 (ay.refl _)
  clear h hcap afr hdo
  go_enter Tryz.func187,Tryz.ntmps187
  go_wp2_with fail
  rw[←hw1]
  clear hw1
  go_region_held3 (fun W=>(W.cell? ⟨b2,0,none⟩=some (.pointer (some ⟨I.ss,0,none⟩))∧W.cell? ⟨I.ss,1,none⟩=some (.pointer (some ⟨I.X.pb,0,none⟩)))∧W.cell? ⟨w.heap.size,0,none⟩=some (.bool true)∧W.cell? ⟨w.heap.size,1,none⟩=some (.bool x1)∧W.cell? ⟨w.heap.size,2,none⟩=some (.bool x2)∧W.cell? ⟨w.heap.size,3,none⟩=some (.int .i64 (f:Int))) (first
      |go_keep
      |exact⟨⟨y2,c1⟩,m0,m1,m2,m3⟩)
    (first
      |((go_at_call 189;with_reducible refine RF.out.mono ?_);rintro e w2 ⟨rfl,rfl⟩)
      |((go_at_call 188;with_reducible refine(CWR.out _).mono ?_);rintro e w3 ⟨rfl,hb3⟩;have B3:Hid (Below w1.heap.size w1 w3):=Lib.hid (eF hb3);obtain⟨⟨y2,y3⟩,m0,m1,m2,m3⟩:=FX.out w3 (ay.below B3.out);have c1:=(B3.out.cell (p:=⟨I.ss,1,none⟩) (oH (a:=⟨I.ss,1,none⟩) c1)).trans c1;clear hb3))
  have UH:=Lib.hid (B1.out.trans (B3.out.mono B1.out.size))
  clear c1
  go_wp2_with fail
  rcases hn with⟨rfl,rfl⟩|⟨rfl,rfl⟩|⟨rfl,rfl⟩
  all_goals
    go_region_held3 (fun W=>(W.cell? ⟨b2,0,none⟩=some (.pointer (some ⟨I.ss,0,none⟩))∧W.cell? ⟨b3,0,none⟩=some (.pointer (some ⟨s.blk,0,none⟩)))∧W.cell? ⟨w.heap.size,0,none⟩=some (.bool true)∧W.cell? ⟨w.heap.size,1,none⟩=some (.bool x1)∧W.cell? ⟨w.heap.size,2,none⟩=some (.bool x2)∧W.cell? ⟨w.heap.size,3,none⟩=some (.int .i64 (f:Int))) (first
      |go_keep
      |exact⟨⟨y2,y3⟩,m0,m1,m2,m3⟩)
     (first
      |((go_at_call 190;with_reducible refine(XF _).mono ?_);rintro e w5 ⟨rfl,hb5⟩;have B35:Hid (Below w1.heap.size w1 w5):=Lib.hid (B3.out.trans ((eF hb5).mono B3.out.size));have B5:Hid (Below w.heap.size w w5):=Lib.hid (B1.out.trans (B35.out.mono B1.out.size));obtain⟨⟨y2,y3⟩,m0,m1,m2,m3⟩:=FX.out w5 (ay.below B35.out);clear hb5)
      |((go_at_call 225;with_reducible refine(DO.out w5 B5.out).mono ?_);rintro e w6 ⟨rfl,DU,hp6⟩;have K6:=Lib.hid DU;have P6:=Lib.hid hp6;obtain⟨⟨y2,y3⟩,m0,m1,m2,m3⟩:=FX.out w6 ((ay.below B35.out).trans DU);clear DU hp6)
      |((go_at_call 226;with_reducible refine(DO.out w5 B5.out).mono ?_);rintro e w6 ⟨rfl,DU,hp6⟩;have K6:=Lib.hid DU;have P6:=Lib.hid hp6;obtain⟨⟨y2,y3⟩,m0,m1,m2,m3⟩:=FX.out w6 ((ay.below B35.out).trans DU);clear DU hp6)
      |((go_at_call 227;with_reducible refine(DO.out w5 B5.out).mono ?_);rintro e w6 ⟨rfl,DU,hp6⟩;have K6:=Lib.hid DU;have P6:=Lib.hid hp6;obtain⟨⟨y2,y3⟩,m0,m1,m2,m3⟩:=FX.out w6 ((ay.below B35.out).trans DU);clear DU hp6))
    go_wp2_with fail
    go_ret
    exact⟨rfl,(ay.below B5.out).trans K6.out,P6.out⟩
theorem BL.XG(h:BL W0 w I c Q V Lb G D){s:Pc}{b2 b3 p f:Nat}(hcap:Cap w b2 b3 I.ss s.blk)(hQ:Q f≠0)(hf:f<I.n):
  Calls Tryz.prog 187 #[.int .i64 (p:Int),ent true true false (f:Int), .pointer (some ⟨b2,0,none⟩), .pointer (some ⟨b3,0,none⟩)] w fun e w'=>e= .returned (.int .i64 0)∧Ends W0 w w' I c Q V Lb G D:=by
 have hn:=h.mo.1
 refine(h.yM hcap hQ (n:=1) (k:=225) (enters Tryz.func225 rfl rfl) (Or.inl ⟨rfl,rfl⟩) (fun W=>IX (f:Int) (Q f:Int) W (Di (Or.inr rfl) (by omega)) (by omega)) (P:=fun w'=>BL W0 w' I c Q V Lb G D) (fun W hb=>(XD _ _ _ _ _ _ _ W).mono fun e w' ⟨a,b⟩=>⟨a,ay.below b,(h.step hb).step b⟩)).mono fun e w' ⟨a,b,d⟩=>⟨a,d,b⟩
theorem BL.TJ(h:BL W0 w I c Q V Lb G D){i:Int}{s:Pc}{F:Sp}(hG:G i=some s)(hD:D i=some F){b2 b3 p f:Nat}(hcap:Cap w b2 b3 I.ss s.blk)(hp:p<1024)(hF:(F p).1=true)(hf:f<I.n)(hQ:Q f=1):
  Calls Tryz.prog 187 #[.int .i64 (p:Int),ent true false true (f:Int), .pointer (some ⟨b2,0,none⟩), .pointer (some ⟨b3,0,none⟩)] w fun e w'=>e= .returned (.int .i64 0)∧Ends W0 w w' I c Q V Lb G (aV D i (some (aI F p (true,true,false,(f:Int))))):=by
 have hn:=h.mo.1
 refine(h.yM hcap (by omega) (n:=2) (k:=226) (enters Tryz.func226 rfl rfl) (Or.inr (Or.inl ⟨rfl,rfl⟩)) (fun W=>by rw[hQ];exact Oh (f:Int) W (Di (Or.inl rfl) (by omega))) (P:=fun w'=>BL W0 w' I c Q V Lb G (aV D i (some (aI F p (true,true,false,(f:Int)))))) (fun W hb=>((h.step hb).own hG hD hp hF hf hQ _ _ _).mono fun e w' ⟨a,b⟩=>⟨a,b.2,b.1⟩)).mono fun e w' ⟨a,b,d⟩=>⟨a,d,b⟩
theorem BL.TM(h:BL W0 w I c Q V Lb G D){i:Int}{s:Pc}{F:Sp}(hG:G i=some s)(hD:D i=some F){b2 b3 p f:Nat}(hcap:Cap w b2 b3 I.ss s.blk)(hp:p<1024)(hF:(F p).1=true)(hf:f<I.n)(hQ:1<Q f)(hc:c≠0):
  Calls Tryz.prog 187 #[.int .i64 (p:Int),ent true false true (f:Int), .pointer (some ⟨b2,0,none⟩), .pointer (some ⟨b3,0,none⟩)] w fun e w'=>e= .returned (.int .i64 0)∧∃x:Nat,x<I.n∧Q x=0∧Ends W0 w w' I (c-1) (upd (upd Q x 1) f (Q f-1)) (copyV (jK V x) x f) Lb G (aV D i (some (aI F p (true,true,false,(x:Int))))):=by
 have hn:=h.mo.1
 refine(h.yM hcap (by omega) (n:=3) (k:=227) (enters Tryz.func227 rfl rfl) (Or.inr (Or.inr ⟨rfl,rfl⟩)) (fun W=>Lx (f:Int) (Q f:Int) W (Di (Or.inl rfl) (by omega)) (by omega)) (P:=fun w'=>∃x:Nat,x<I.n∧Q x=0∧BL W0 w' I (c-1) (upd (upd Q x 1) f (Q f-1)) (copyV (jK V x) x f) Lb G (aV D i (some (aI F p (true,true,false,(x:Int)))))) (fun W hb=>((h.step hb).duplicate hG hD hp hF hf hQ hc _ _ _).mono ?_)).mono ?_
 ·rintro e w' ⟨a,x,h1,h2,h3⟩
  exact⟨a,h3.2,x,h1,h2,h3.1⟩
 ·rintro e w' ⟨a,b,x,h1,h2,h3⟩
  exact⟨a,x,h1,h2,h3,b⟩
end
end Go.Proofs.YtammlljefhakmaaGreatDoor
namespace Go.Proofs.YtammlljefhakmaaGreatDoor
open Go.RowKit Go.Maps
set_option maxRecDepth 100000
theorem LP(args:Array Value)(W:World):(callFunc 180 args).run Tryz.prog W= .ok (.enter 180 args) W:=enters Tryz.func180 rfl rfl args W
theorem LU(args:Array Value)(W:World):(callFunc 220 args).run Tryz.prog W= .ok (.enter 220 args) W:=enters Tryz.func220 rfl rfl args W
theorem Eu(args:Array Value)(W:World):(callFunc 182 args).run Tryz.prog W= .ok (.enter 182 args) W:=enters Tryz.func182 rfl rfl args W
def Ag(o:Option Bool)(wr:Bool):Int:=match o with
 |none=>7
 |some x=>if wr=true∧x=false then 8 else 0
section
variable {W0 w:World} {I:lK} {c:Nat} {Q:Nat→Nat} {V:Nat→Nat→Int} {Lb:List Nd} {G:Int→Option Pc} {D:Int→Option Sp}
set_option maxHeartbeats 1000000 in
theorem BL.ahF(h:BL W0 w I c Q V Lb G D){i:Int}{s:Pc}(hG:G i=some s){b2 b3:Nat}{wr:Bool}(h2:w.heap[b2]? =some (.cells #[.pointer (some ⟨s.blk,0,none⟩)] 127 (0,0)))(h3:w.heap[b3]? =some (.cells #[.bool wr] 4 (0,0)))(p:Int)(x0 x1 x2:Bool)(g:Int):
  Calls Tryz.prog 180 #[.int .i64 p,ent x0 x1 x2 g, .pointer (some ⟨b2,0,none⟩), .pointer (some ⟨b3,0,none⟩)] w fun e w'=>e= .returned (.int .i64 (Ag (fF s.ar p) wr))∧Below w.heap.size w w':=by
 obtain⟨w1,hw1⟩:∃w1,w1=w.alloc (.cells #[.bool x0, .bool x1, .bool x2, .int .i64 g] 217):=⟨_,rfl⟩
 have B1:Hid (Below w.heap.size w w1):=Lib.hid (by rw[hw1];exact(Below.refl _ _).alloc (Nat.le_refl _) _)
 have H1:=Lib.hid (h.step B1.out)
 have y2:w1.cell? ⟨b2,0,none⟩=some (.pointer (some ⟨s.blk,0,none⟩)):=by rw[cell_of_row _ _ _ _ _ _ (below_block B1.out h2)];rfl
 have s2:=(H1.out.iK hG).2.2
 have N3:=Lib.hid (below_block B1.out h3)
 have FD:=Lib.hid (Ls s.ar s.v p w1 (H1.out.area hG).1.at_ (o:=fF s.ar p) (Or.inl ⟨(H1.out.area hG).2,rfl⟩))
 clear h hG h2 h3
 generalize fF s.ar p=o at FD ⊢
 go_enter Tryz.func180,Tryz.ntmps180
 subst hw1
 go_wp2_with fail
 refine FD.out.mono ?_
 rintro e w2 ⟨rfl,hb2⟩
 have B2:=Lib.hid (B1.out.trans (hb2.mono B1.out.size))
 have y3:w2.cell? ⟨b3,0,none⟩=some (.bool wr):=by rw[cell_of_row _ _ _ _ _ _ (below_block hb2 N3.out)];rfl
 clear hb2 y2 s2
 cases o with
 |none=>
  go_wp2
  go_ret
  exact⟨rfl,B2.out⟩
 | some x=>
  cases wr<;>cases x
  all_goals
   go_wp2
   go_ret
   exact⟨rfl,B2.out⟩
theorem aaD(b:Nat)(v x0 x1 x2:Bool)(p g:Int)(w:World)(hb:w.heap[b]? =some (.cells #[.bool v] 4 (0,0))):
  Calls Tryz.prog 220 #[.int .i64 p,ent x0 x1 x2 g, .pointer (some ⟨b,0,none⟩)] w fun e w'=>e= .returned (.int .i64 0)∧∃w1,Below w.heap.size w w1∧w'=w1.setCell ⟨b,0,none⟩ (.bool (v||x0)):=by
 have B:Hid (Below w.heap.size w (w.alloc (.cells #[.bool x0, .bool x1, .bool x2, .int .i64 g] 217))):=Lib.hid ((Below.refl _ _).alloc (Nat.le_refl _) _)
 have y:=below_block B.out hb
 have y0:(w.alloc (.cells #[.bool x0, .bool x1, .bool x2, .int .i64 g] 217)).cell? ⟨b,0,none⟩=some (.bool v):=by rw[cell_of_row _ _ _ _ _ _ y];rfl
 have f0:=frozen_of_row _ b 0 _ _ y
 clear y hb
 cases v<;>cases x0
 all_goals
  go_enter Tryz.func220,Tryz.ntmps220
  go_wp2
  go_ret
  exact⟨rfl,_,B.out,rfl⟩
end
end Go.Proofs.YtammlljefhakmaaGreatDoor
namespace Go.Proofs.YtammlljefhakmaaGreatDoor
open Go.RowKit Go.Maps
set_option maxRecDepth 100000
theorem Ev(args:Array Value)(W:World):(callFunc 158 args).run Tryz.prog W= .ok (.enter 158 args) W:=enters Tryz.func158 rfl rfl args W
theorem I6(args:Array Value)(W:World):(callFunc 141 args).run Tryz.prog W= .ok (.enter 141 args) W:=enters Tryz.func141 rfl rfl args W
theorem Dk{w:World}{b:Nat}{e':fQ}:Only w (jr w b e') (fun k=>k=b):=by
 have s:∀(W:World) (i:Nat) (v:Value),Only W (W.setCell ⟨b,i,none⟩ v) (fun k=>k=b):=fun W i v=>Only.grown (grownBy_setCell W b i v) rfl
 exact(((s w 0 _).trans (s _ 1 _)).trans (s _ 2 _)).trans (s _ 3 _)
section
variable {W0 w:World} {I:lK} {c:Nat} {Q:Nat→Nat} {V:Nat→Nat→Int} {Lb:List Nd} {G:Int→Option Pc} {D:Int→Option Sp}
theorem BL.boxed(h:BL W0 w I c Q V Lb G D){b:Nat}{e e':fQ}(hb:w.heap[b]? =some (eU e))(hn:W0.heap.size≤b):BL W0 (jr w b e') I c Q V Lb G D:=by
 obtain⟨W,Pb,h1,h2⟩:=h
 have ho:=Dk (w:=w) (b:=b) (e':=e')
 exact⟨W,Pb,h1.ahE ho (fun k hk=>by rw[hk];exact hn) (fun k hk=>by rw[hk];exact⟨wY.cells hb (by decide),h1.aay hb⟩),h2⟩
theorem Ends.boxed{w1 w2:World}{o:Obj}{e':fQ}(hw1:w1=(w.alloc o).drew)(h0:W0.heap.size≤w.heap.size)(k:Ends W0 w1 w2 I c Q V Lb G D){e:fQ}(hb:w2.heap[w.heap.size]? =some (eU e)):Ends W0 w (jr w2 w.heap.size e') I c Q V Lb G D:=by
 refine⟨k.1.boxed hb h0,⟨?_⟩⟩
 subst hw1
 have ho:=Dk (w:=w2) (b:=w.heap.size) (e':=e')
 have h1:Only w w2 (Mov w):=((ay.below (((Below.refl w.heap.size w).alloc (Nat.le_refl _) o).drew)).trans k.2).only
 exact⟨ho.os.trans h1.os,ho.tape.trans h1.tape,ho.output.trans h1.output,Nat.le_trans h1.size ho.size,fun j hj hB=>(ho.block j (Nat.lt_of_lt_of_le hj h1.size) (by omega)).trans (h1.block j hj hB)⟩
theorem Oq(b2 b3:Nat)(p:Int)(x1 x2:Bool)(g:Int)(w:World):Calls Tryz.prog 141 #[.int .i64 p,ent false x1 x2 g, .pointer (some ⟨b2,0,none⟩), .pointer (some ⟨b3,0,none⟩)] w fun e w'=>e= .returned (.int .i64 0)∧Below w.heap.size w w':=by
 have B:Hid (Below w.heap.size w (w.alloc (.cells #[.bool false, .bool x1, .bool x2, .int .i64 g] 217))):=Lib.hid ((Below.refl _ _).alloc (Nat.le_refl _) _)
 go_enter Tryz.func141,Tryz.ntmps141
 go_wp2
 go_ret
 exact⟨rfl,B.out⟩
set_option maxHeartbeats 4000000 in
theorem BL.share1(h:BL W0 w I c Q V Lb G D){i j:Int}{s t:Pc}{F K:Sp}(hG:G i=some s)(hD:D i=some F)(hGj:G j=some t)(hDj:D j=some K)(hij:i≠j){b2 b3 b4 p f:Nat}(hcap:Cap w b2 b3 I.ss s.blk)(h4:w.heap[b4]? =some (.cells #[.pointer (some ⟨t.blk,0,none⟩)] 127 (0,0)))(hp:p<1024)(hF:(F p).1=false){x1 x2:Bool}(hK:K p=(true,x1,x2,(f:Int)))(hx:x1=false∨x2=false)(hf:f<I.n)(hQ:Q f≠0)(hQ8:Q f<64)(hc:newT F p≤c):
  Calls Tryz.prog 158 #[.int .i64 (p:Int),ent true x1 x2 (f:Int), .pointer (some ⟨b2,0,none⟩), .pointer (some ⟨b3,0,none⟩), .pointer (some ⟨b4,0,none⟩)] w fun e w'=>e= .returned (.int .i64 0)∧Ends W0 w w' I (c-newT F p) (upd Q f (Q f+1)) V Lb G (aV (aV D i (some (aI F p (true,false,x1||x2,(f:Int))))) j (some (aI K p (true,false,x1||x2,(f:Int))))):=by
 have hn:=h.mo.1
 obtain⟨w1,hw1⟩:∃w1,w1=w.alloc (.cells #[.bool true, .bool x1, .bool x2, .int .i64 (f:Int)] 217):=⟨_,rfl⟩
 have B1:Hid (Below w.heap.size w w1):=Lib.hid (by rw[hw1];exact(Below.refl _ _).alloc (Nat.le_refl _) _)
 have hfit:mU I.n (true,false,x1||x2,(f:Int)):=⟨rfl,by simp only;omega,IZ (Or.inl rfl) (by omega)⟩
 have FK:Hid (∀W,Calls Tryz.prog 159 #[ent true x1 x2 (f:Int)] W fun e w'=>e= .returned (.tuple #[ent true false (x1||x2) (f:Int), .int .i64 0])∧Below W.heap.size W w'):=Lib.hid fun W=>by
  have hpg:Qn true x1 x2 (f:Int)=true:=Di hx (by omega)
  cases x1<;>cases x2
  ·exact Oe (f:Int) W hpg
  ·exact Og (f:Int) W hpg
  ·exact Lv (f:Int) W hpg
  ·rcases hx with hx|hx<;>cases hx
 have H1:=Lib.hid (h.step B1.out)
 have C1:=Lib.hid (hcap.below B1.out)
 have P1:=Lib.hid (below_block B1.out h4)
 have HX:=Lib.hid (And.intro hG (And.intro hD (And.intro hF (And.intro hGj (And.intro hDj hK)))))
 clear h hcap h4 hG hD hF hGj hDj hK
 generalize hy:(x1||x2)=y at*
 clear hy
 go_enter Tryz.func158,Tryz.ntmps158
 subst hw1
 go_wp2_with fail
 refine(FK.out _).mono ?_
 rintro e w2 ⟨rfl,hb2⟩
 obtain⟨w3,hw3⟩:∃w3,w3=w2.alloc (.cells #[.bool true, .bool false, .bool y, .int .i64 (f:Int)] 217):=⟨_,rfl⟩
 have hb3:Below w2.heap.size w2 w3:=by rw[hw3];exact(Below.refl _ _).alloc (Nat.le_refl _) _
 have N3:Hid (w3.heap[w2.heap.size]? =some (eU (true,false,y,(f:Int)))):=Lib.hid (by rw[hw3];exact heap_alloc_new w2 _)
 have B3:=Lib.hid (hb2.trans (hb3.mono hb2.size))
 have E3:=Lib.hid (Ends.stay H1.out B3.out)
 have C3:=Lib.hid (C1.out.below B3.out)
 have P3:=Lib.hid (below_block B3.out P1.out)
 clear hb2 hb3
 go_wp2_with fail
 rw[←hw3]
 clear hw3
 have y2:=C3.out.c2
 have y3:=C3.out.c3
 have c4:=E3.out.1.cells.2.2.2.2.1
 have s1:=(E3.out.1.iK HX.out.1).2.1
 obtain⟨m0,m1,m2,m3⟩:=aU N3.out
 simp only at m0 m1 m2 m3
 go_still_tail 10,(by kernel_rfl)
 go_wp2_with fail
 refine((E3.out.1.step (Below.refl _ _).drew).map HX.out.1 HX.out.2.1 hp HX.out.2.2.1 hfit hc).mono ?_
 rintro e w4 ⟨rfl,h4⟩
 have E4:=Lib.hid (E3.out.next (Ends.ahead (Below.refl _ _).drew h4))
 have C4:=Lib.hid ((C3.out.below (Below.refl _ _).drew).keep h4.2)
 have P4:=Lib.hid (h4.2.box (below_block (Below.refl _ _).drew P3.out) (by decide))
 have N4:Hid (w4.heap[w2.heap.size]? =some (eU (true,false,y,(f:Int)))):=Lib.hid (h4.2.box (below_block (Below.refl _ _).drew N3.out) (by decide))
 have y2:=C4.out.c2
 have y4:w4.cell? ⟨b4,0,none⟩=some (.pointer (some ⟨t.blk,0,none⟩)):=by rw[cell_of_row _ _ _ _ _ _ P4.out];rfl
 have c4:=E4.out.1.cells.2.2.2.2.1
 have s1:=(E4.out.1.iK HX.out.2.2.2.1).2.1
 obtain⟨m0,m1,m2,m3⟩:=aU N4.out
 simp only at m0 m1 m2 m3
 clear h4
 go_wp2_with fail
 go_still_tail 10,(by kernel_rfl)
 go_wp2_with fail
 refine((E4.out.1.step (Below.refl _ _).drew).set HX.out.2.2.2.1 (by rw[aJ _ _ _ (fun e=>hij e.symm)];exact HX.out.2.2.2.2.1) hp (by rw[HX.out.2.2.2.2.2]) hfit).mono ?_
 rintro e w5 ⟨rfl,h5⟩
 have E5:=Lib.hid (E4.out.next (Ends.ahead (Below.refl _ _).drew h5))
 have C5:=Lib.hid ((C4.out.below (Below.refl _ _).drew).keep h5.2)
 have N5:Hid (w5.heap[w2.heap.size]? =some (eU (true,false,y,(f:Int)))):=Lib.hid (h5.2.box (below_block (Below.refl _ _).drew N4.out) (by decide))
 have y2:=C5.out.c2
 have c1:=E5.out.1.cells.2.1
 obtain⟨m0,m1,m2,m3⟩:=aU N5.out
 simp only at m0 m1 m2 m3
 clear h5
 go_wp2_with fail
 go_still_tail 6,(by kernel_rfl)
 go_wp2_with fail
 refine((E5.out.1.step (Below.refl _ _).drew).share f hQ hQ8).mono ?_
 rintro e w6 ⟨rfl,h6⟩
 have E6:=Lib.hid (E5.out.next (Ends.ahead (Below.refl _ _).drew h6))
 clear h6
 go_wp2_with fail
 go_ret
 exact⟨rfl,Ends.ahead B1.out E6.out⟩
set_option maxHeartbeats 4000000 in
theorem BL.drop1(h:BL W0 w I c Q V Lb G D){i:Int}{s:Pc}{F:Sp}(hG:G i=some s)(hD:D i=some F){b2 b3 p f:Nat}(hcap:Cap w b2 b3 I.ss s.blk)(hp:p<1024){x1 x2:Bool}(hF:F p=(true,x1,x2,(f:Int)))(hQ:Q f≠0):
  Calls Tryz.prog 141 #[.int .i64 (p:Int),ent true x1 x2 (f:Int), .pointer (some ⟨b2,0,none⟩), .pointer (some ⟨b3,0,none⟩)] w fun e w'=>e= .returned (.int .i64 0)∧Ends W0 w w' I (c+newT (aI F p z0) p+(if Q f=1 then 1 else 0)) (upd Q f (Q f-1)) V Lb G (aV D i (some (aI F p z0))):=by
 obtain⟨d,hd⟩:∃d:Nat,d=(if Q f=1 then 1 else 0):=⟨_,rfl⟩
 rw[←hd]
 have HD:=Lib.hid hd
 clear hd
 obtain⟨w1,hw1⟩:∃w1,w1=w.alloc (.cells #[.bool true, .bool x1, .bool x2, .int .i64 (f:Int)] 217):=⟨_,rfl⟩
 have B1:Hid (Below w.heap.size w w1):=Lib.hid (by rw[hw1];exact(Below.refl _ _).alloc (Nat.le_refl _) _)
 have N1:Hid (w1.heap[w.heap.size]? =some (eU (true,x1,x2,(f:Int)))):=Lib.hid (by rw[hw1];exact heap_alloc_new w _)
 have H1:=Lib.hid (h.step B1.out)
 have C1:=Lib.hid (hcap.below B1.out)
 have HX:=Lib.hid (And.intro hG (And.intro hD hF))
 have UM:=Lib.hid (show ∀W,Below w1.heap.size w1 W→Calls Tryz.prog 142 #[.pointer (some ⟨I.tb,0,none⟩), .int .i64 (s.root:Int), .int .i64 (p:Int)] W fun e w'=>e= .returned (.tuple #[ent true x1 x2 (f:Int), .int .i64 0])∧Ends W0 W w' I (c+newT (aI F p z0) p) Q V Lb G (aV D i (some (aI F p z0)))from fun W hb=>(H1.out.step hb).unmap hG hD hp hF)
 have U1:=Lib.hid (UM.out w1.drew (Below.refl _ _).drew)
 have U2:=Lib.hid (UM.out (w1.alloc (.cells #[.bool false, .bool false, .bool false, .int .i64 0] 217)).drew ((Below.refl _ _).alloc (Nat.le_refl _) _).drew)
 have FX:Hid (∀W,ay w1 W→W.cell? ⟨I.ss,4,none⟩=some (.pointer (some ⟨I.tb,0,none⟩))→W.cell? ⟨s.blk,1,none⟩=some (.int .i64 (s.root:Int))→(W.cell? ⟨b2,0,none⟩=some (.pointer (some ⟨I.ss,0,none⟩))∧W.cell? ⟨b3,0,none⟩=some (.pointer (some ⟨s.blk,0,none⟩)))∧W.cell? ⟨I.ss,4,none⟩=some (.pointer (some ⟨I.tb,0,none⟩))∧W.cell? ⟨s.blk,1,none⟩=some (.int .i64 (s.root:Int))):=Lib.hid fun W hk h1 h2=>⟨⟨(C1.out.keep hk).c2,(C1.out.keep hk).c3⟩,h1,h2⟩
 have FB:Hid (∀W,Below w1.heap.size w1 W→(W.cell? ⟨b2,0,none⟩=some (.pointer (some ⟨I.ss,0,none⟩))∧W.cell? ⟨b3,0,none⟩=some (.pointer (some ⟨s.blk,0,none⟩)))∧W.cell? ⟨I.ss,4,none⟩=some (.pointer (some ⟨I.tb,0,none⟩))∧W.cell? ⟨s.blk,1,none⟩=some (.int .i64 (s.root:Int))):=Lib.hid fun W hb=>FX.out W (ay.below hb) (H1.out.step hb).cells.2.2.2.2.1 ((H1.out.step hb).iK hG).2.1
 have FE:Hid (∀W c' Q' V' D',Ends W0 w1 W I c' Q' V' Lb G D'→(W.cell? ⟨b2,0,none⟩=some (.pointer (some ⟨I.ss,0,none⟩))∧W.cell? ⟨b3,0,none⟩=some (.pointer (some ⟨s.blk,0,none⟩)))∧W.cell? ⟨I.ss,4,none⟩=some (.pointer (some ⟨I.tb,0,none⟩))∧W.cell? ⟨s.blk,1,none⟩=some (.int .i64 (s.root:Int))):=Lib.hid fun W c' Q' V' D' he=>FX.out W he.2 he.1.cells.2.2.2.2.1 (he.1.iK hG).2.1
 have hsz:W0.heap.size≤w1.heap.size:=H1.out.below.size
 obtain⟨m0,m1,m2,m3⟩:=aU N1.out
 simp only at m0 m1 m2 m3
 obtain⟨⟨y2,y3⟩,c4,s1⟩:=FB.out w1 (Below.refl _ _)
 clear h hcap hG hD hF m1 m2 m3
 go_enter Tryz.func141,Tryz.ntmps141
 go_wp2_with fail
 rw[←hw1]
 clear hw1
 go_cut [8] (fun v8 wx=>v8= .int .i64 0∧Ends W0 w1 wx I (c+newT (aI F p z0) p) Q V Lb G (aV D i (some (aI F p z0))))
 case first=>
  go_region_held3 (fun W=>(W.cell? ⟨b2,0,none⟩=some (.pointer (some ⟨I.ss,0,none⟩))∧W.cell? ⟨b3,0,none⟩=some (.pointer (some ⟨s.blk,0,none⟩)))∧W.cell? ⟨I.ss,4,none⟩=some (.pointer (some ⟨I.tb,0,none⟩))∧W.cell? ⟨s.blk,1,none⟩=some (.int .i64 (s.root:Int))) (first
    |go_keep
    |with_reducible exact FB.out _ (Below.refl _ _).drew
    |with_reducible exact FB.out _ ((Below.refl _ _).alloc (Nat.le_refl _) _).drew
    |with_reducible exact FE.out w2 _ _ _ _ E2.out
    |with_reducible exact FE.out _ _ _ _ _ E2p.out
    |with_reducible exact FE.out _ _ _ _ _ (E2.out.behind ((Below.refl _ _).alloc (Nat.le_refl _) _)))
   (first
    |((go_at_call 142;with_reducible refine U1.out.mono ?_);rintro e w2 ⟨rfl,h2⟩;have E2:=Lib.hid (Ends.ahead (Below.refl _ _).drew h2);clear h2)
    |((go_at_call 142;with_reducible refine U2.out.mono ?_);rintro e w2 ⟨rfl,h2⟩;have E2:=Lib.hid (Ends.ahead ((Below.refl _ _).alloc (Nat.le_refl _) _).drew h2);have N2:Hid (w2.heap[w1.heap.size]? =some (eU z0)):=Lib.hid (h2.2.box (heap_alloc_new w1 _) (by decide));have E2p:Hid (Ends W0 w1 ((((w2.setCell ⟨w1.heap.size,0,none⟩ (.bool true)).setCell ⟨w1.heap.size,1,none⟩ (.bool x1)).setCell ⟨w1.heap.size,2,none⟩ (.bool x2)).setCell ⟨w1.heap.size,3,none⟩ (.int .i64 (f:Int))) I (c+newT (aI F p z0) p) Q V Lb G (aV D i (some (aI F p z0)))):=Lib.hid (Ends.boxed (e':=(true,x1,x2,(f:Int))) rfl hsz h2 N2.out);have f0:=frozen_of_row _ w1.heap.size 0 _ _ N2.out;have f1:=frozen_of_row _ w1.heap.size 1 _ _ N2.out;have f2:=frozen_of_row _ w1.heap.size 2 _ _ N2.out;have f3:=frozen_of_row _ w1.heap.size 3 _ _ N2.out;obtain⟨q0,q1,q2,q3⟩:=aU (e:=z0) N2.out;clear h2))
  all_goals
   go_wp2_with fail
   go_meet
   case rel=>first|exact⟨rfl,E2.out.behind ((Below.refl _ _).alloc (Nat.le_refl _) _)⟩|exact⟨rfl,E2p.out⟩
 case rest=>
  obtain⟨rfl,he⟩:=hcut
  obtain⟨w3,hw3⟩:∃w3,w3=wc:=⟨_,rfl⟩
  rw[←hw3]at he ⊢
  clear hw3 y2 y3 c4 s1 m0
  have E3:=Lib.hid he
  have C3:=Lib.hid (C1.out.keep he.2)
  have N3:Hid (w3.heap[w.heap.size]? =some (eU (true,x1,x2,(f:Int)))):=Lib.hid (he.2.box N1.out (by decide))
  have y2:=C3.out.c2
  have c1:=he.1.cells.2.1
  obtain⟨m0,m1,m2,m3⟩:=aU N3.out
  simp only at m0 m1 m2 m3
  clear he
  go_wp2_with fail
  go_still_tail 6,(by kernel_rfl)
  go_wp2_with fail
  refine((E3.out.1.step (Below.refl _ _).drew).free f hQ).mono ?_
  rintro e w4 ⟨rfl,h4⟩
  have E4:=Lib.hid (E3.out.next (Ends.ahead (Below.refl _ _).drew h4))
  clear h4
  go_wp2_with fail
  go_ret
  have:=Ends.ahead B1.out E4.out
  have e1:(if Q f=1 then c+newT (aI F p z0) p+1 else c+newT (aI F p z0) p)=c+newT (aI F p z0) p+d:=by rw[HD.out];split<;>rfl
  rw[e1]at this
  exact⟨rfl,this⟩
end
end Go.Proofs.YtammlljefhakmaaGreatDoor
namespace Go.Proofs.YtammlljefhakmaaGreatDoor
set_option maxRecDepth 100000
def qz(D:Int→Option Sp)(i:Int)(p:Nat):Bool:=match D i with
 |none=>false
 |some F=>(F p).1
def ou(D:Int→Option Sp)(V:Nat→Nat→Int)(i:Int)(p q:Nat):Int:=match D i with
 |none=>0
 |some F=>if(F p).1=true then V (F p).2.2.2.toNat q else 0
theorem bO{D:Int→Option Sp}{i:Int}{F:Sp}(h:D i=some F)(p:Nat):qz D i p=(F p).1:=by unfold qz;rw[h]
theorem jA{D:Int→Option Sp}{i:Int}{F:Sp}(h:D i=some F)(V:Nat→Nat→Int)(p q:Nat):ou D V i p q=if(F p).1=true then V (F p).2.2.2.toNat q else 0:=by unfold ou;rw[h]
theorem Qs{D:Int→Option Sp}{i:Int}{p:Nat}(h:qz D i p=false)(V:Nat→Nat→Int)(q:Nat):ou D V i p q=0:=by
 unfold qz at h
 unfold ou
 cases hD:D i with
 |none=>rfl
 |some F=>rw[hD]at h;simp only at h;simp[h]
theorem oM(D:Int→Option Sp)(i:Int)(F:Sp)(j:Int)(p:Nat):qz (aV D i (some F)) j p=if j=i then(F p).1 else qz D j p:=by
 unfold qz
 by_cases e:j=i
 ·subst e;rw[aR,if_pos rfl]
 ·rw[aJ _ _ _ e,if_neg e]
theorem oN(D:Int→Option Sp)(V:Nat→Nat→Int)(i:Int)(F:Sp)(j:Int)(p q:Nat):ou (aV D i (some F)) V j p q=if j=i then(if(F p).1=true then V (F p).2.2.2.toNat q else 0)else ou D V j p q:=by
 unfold ou
 by_cases e:j=i
 ·subst e;rw[aR,if_pos rfl]
 ·rw[aJ _ _ _ e,if_neg e]
theorem yN{D:Int→Option Sp}{V V':Nat→Nat→Int}{j:Int}{p q:Nat}(h:∀F,D j=some F→(F p).1=true→V' (F p).2.2.2.toNat q=V (F p).2.2.2.toNat q):ou D V' j p q=ou D V j p q:=by
 unfold ou
 cases hD:D j with
 |none=>rfl
 |some F=>
  simp only
  by_cases hF:(F p).1=true
  ·rw[if_pos hF,if_pos hF];exact h F hD hF
  ·rw[if_neg hF,if_neg hF]
section
variable {n q c:Nat} {D:Int→Option Sp} {Q:Nat→Nat} {Lb:List Nd} {ow:Int→Nat} {P:Int→Nat→Option Bool}
theorem J.fresh(h:J n q c D Q Lb ow P){x:Nat}(hx:Q x=0){j:Int}{F:Sp}{p:Nat}(hj:D j=some F)(hp:p<1024)(hF:(F p).1=true):(F p).2.2.2.toNat≠x:=fun e=>by
 obtain⟨f,h1,_,h3,_⟩:=h.held hj hp hF
 have:f=x:=by omega
 rw[this]at h3;exact h3 hx
theorem J.LV(h:J n q c D Q Lb ow P)(V:Nat→Nat→Int){i:Int}{F:Sp}(hi:D i=some F){p x:Nat}(hF:(F p).1=false)(hx:Q x=0){w k:Bool}(j:Int)(r:Nat)(hr:r<1024):
  qz (aV D i (some (aI F p (true,w,k,(x:Int))))) j r=(qz D j r||decide (j=i∧r=p))∧∀y,y<32→ou (aV D i (some (aI F p (true,w,k,(x:Int))))) (jK V x) j r y=ou D V j r y:=by
 constructor
 ·rw[oM]
  by_cases e:j=i
  ·subst e
   rw[if_pos rfl,bO hi]
   by_cases er:r=p
   ·subst er;rw[aC];simp
   ·rw[aA _ _ _ _ er];simp[er]
  ·rw[if_neg e];simp[e]
 ·intro y _
  rw[oN]
  have keep:∀{l:Int} {K:Sp},D l=some K→(K r).1=true→jK V x (K r).2.2.2.toNat y=V (K r).2.2.2.toNat y:=fun {l K} hl hK=>by
   unfold jK;rw[if_neg (h.fresh hx hl hr hK)]
  by_cases e:j=i
  ·subst e
   rw[if_pos rfl,jA hi]
   by_cases er:r=p
   ·subst er
    rw[aC,hF]
    simp[jK]
   ·rw[aA _ _ _ _ er]
    by_cases hK:(F r).1=true
    ·rw[if_pos hK,if_pos hK];exact keep hi hK
    ·rw[if_neg hK,if_neg hK]
  ·rw[if_neg e];exact yN fun K hl hK=>keep hl hK
theorem LX(V:Nat→Nat→Int){D:Int→Option Sp}{i:Int}{F:Sp}(hi:D i=some F){p:Nat}(hF:(F p).1=true){w k:Bool}{g:Int}(hg:g=(F p).2.2.2)(j:Int)(r:Nat):
  qz (aV D i (some (aI F p (true,w,k,g)))) j r=qz D j r∧∀y,ou (aV D i (some (aI F p (true,w,k,g)))) V j r y=ou D V j r y:=by
 subst hg
 constructor
 ·rw[oM]
  by_cases e:j=i
  ·subst e
   rw[if_pos rfl,bO hi]
   by_cases er:r=p
   ·subst er;rw[aC,hF]
   ·rw[aA _ _ _ _ er]
  ·rw[if_neg e]
 ·intro y
  rw[oN]
  by_cases e:j=i
  ·subst e
   rw[if_pos rfl,jA hi]
   by_cases er:r=p
   ·subst er;rw[aC,hF]
   ·rw[aA _ _ _ _ er]
  ·rw[if_neg e]
theorem J.XH(h:J n q c D Q Lb ow P)(V:Nat→Nat→Int){i:Int}{F:Sp}(hi:D i=some F){p f x:Nat}(hF:(F p).1=true)(hf:(F p).2.2.2=(f:Int))(hx:Q x=0)(hQ:Q f≠0){w k:Bool}(j:Int)(r:Nat)(hr:r<1024):
  qz (aV D i (some (aI F p (true,w,k,(x:Int))))) j r=qz D j r∧∀y,ou (aV D i (some (aI F p (true,w,k,(x:Int))))) (copyV (jK V x) x f) j r y=ou D V j r y:=by
 have hne:f≠x:=by rintro rfl;exact hQ hx
 constructor
 ·rw[oM]
  by_cases e:j=i
  ·subst e
   rw[if_pos rfl,bO hi]
   by_cases er:r=p
   ·subst er;rw[aC,hF]
   ·rw[aA _ _ _ _ er]
  ·rw[if_neg e]
 ·intro y
  rw[oN]
  have keep:∀{l:Int} {K:Sp},D l=some K→(K r).1=true→copyV (jK V x) x f (K r).2.2.2.toNat y=V (K r).2.2.2.toNat y:=fun {l K} hl hK=>by
   have:=h.fresh hx hl hr hK
   unfold copyV jK;rw[if_neg this,if_neg this]
  by_cases e:j=i
  ·subst e
   rw[if_pos rfl,jA hi]
   by_cases er:r=p
   ·subst er
    rw[aC,hF,hf]
    simp only[if_true,Int.toNat_natCast,copyV,jK,if_neg hne]
   ·rw[aA _ _ _ _ er]
    by_cases hK:(F r).1=true
    ·rw[if_pos hK,if_pos hK];exact keep hi hK
    ·rw[if_neg hK,if_neg hK]
  ·rw[if_neg e];exact yN fun K hl hK=>keep hl hK
theorem I8(V:Nat→Nat→Int){D:Int→Option Sp}{i:Int}{F:Sp}(hi:D i=some F)(p:Nat)(j:Int)(r:Nat):
  qz (aV D i (some (aI F p z0))) j r=(qz D j r&& !decide (j=i∧r=p))∧∀y,ou (aV D i (some (aI F p z0))) V j r y=if j=i∧r=p then 0 else ou D V j r y:=by
 constructor
 ·rw[oM]
  by_cases e:j=i
  ·subst e
   rw[if_pos rfl,bO hi]
   by_cases er:r=p
   ·subst er;rw[aC];simp[z0]
   ·rw[aA _ _ _ _ er];simp[er]
  ·rw[if_neg e];simp[e]
 ·intro y
  rw[oN]
  by_cases e:j=i
  ·subst e
   rw[if_pos rfl,jA hi]
   by_cases er:r=p
   ·subst er;rw[aC];simp[z0]
   ·rw[aA _ _ _ _ er];simp[er]
  ·rw[if_neg e,if_neg (fun e2=>e e2.1)]
theorem J.XI(h:J n q c D Q Lb ow P)(V:Nat→Nat→Int){i:Int}{F:Sp}(hi:D i=some F){p f:Nat}(hp:p<1024)(hF:(F p).1=true)(hf:(F p).2.2.2=(f:Int))(hQ:Q f=1)(z:Nat)(v:Int)(j:Int)(r:Nat)(hr:r<1024)(y:Nat):
  ou D (vR V f z v) j r y=if j=i∧r=p∧y=z then v else ou D V j r y:=by
 by_cases e:j=i∧r=p
 ·obtain⟨rfl,rfl⟩:=e
  rw[jA hi,jA hi,if_pos hF,if_pos hF,hf,Int.toNat_natCast]
  unfold vR
  simp
 ·rw[if_neg (fun e2=>e ⟨e2.1,e2.2.1⟩)]
  refine yN fun K hl hK=>?_
  unfold vR
  rw[if_neg]
  rintro⟨e2,_⟩
  obtain⟨g,hg,_,_,_⟩:=h.held hl hr hK
  have hgf:g=f:=by omega
  subst hgf
  have er:=h.one j i K F r p hl hi hr hp hK hF (by rw[hg,hf])
  have hji:j≠i:=fun e3=>e ⟨e3,er⟩
  have h1:eO (D i) g=true:=by rw[hi];exact(dN _ _).2 ⟨p,hp,hF,hf⟩
  have h2:eO (D j) g=true:=by rw[hl];exact(dN _ _).2 ⟨r,hr,hK,hg⟩
  have:=Cw (f:=fun l=>b1 (eO (D l) g)) (h.pid i F hi) (h.pid j K hl) hji
  rw[←h.cnt g,hQ,h1,h2]at this
  simp[b1]at this
end
end Go.Proofs.YtammlljefhakmaaGreatDoor
namespace Go.Proofs.YtammlljefhakmaaGreatDoor
set_option maxRecDepth 100000
def mM(b:Nat→Bool)(i:Nat):Bool:=(List.range 32).any fun j=>b (32*i+j)
theorem mq(b:Nat→Bool)(i:Nat):mM b i=true↔∃j,j<32∧b (32*i+j)=true:=by simp[mM]
theorem wZ{b:Nat→Bool}{p:Nat}(h:b p=true):mM b (p/32)=true:=(mq _ _).2 ⟨p%32,by omega,by rw[show 32*(p/32)+p%32=p by omega];exact h⟩
theorem Qt{b:Nat→Bool}{i:Nat}(h:mM b i=true):∃p,p/32=i∧b p=true:=by
 obtain⟨j,hj,hb⟩:=(mq _ _).1 h
 exact⟨32*i+j,by omega,hb⟩
def newP(b:Nat→Bool)(p:Nat):Nat:=if mM b (p/32)=true then 0 else 1
def rH(b:Nat→Bool):Nat:=1+rU (mM b) 32+rU b 1024
abbrev lM(F:Sp):Nat→Bool:=fun p=>(F p).1
theorem XJ(F:Sp):cO F=rH (lM F):=rfl
theorem Qv(F:Sp)(p:Nat):newT F p=newP (lM F) p:=rfl
def Gn(b:Nat→Bool)(p:Nat):Nat→Bool:=fun r=>b r||decide (r=p)
theorem adD{b:Nat→Bool}{p:Nat}(h:b p=true):Gn b p=b:=by
 funext r
 unfold Gn
 by_cases e:r=p
 ·subst e;rw[h];rfl
 ·simp[e]
def bW(b:Nat→Bool):List Nat→Nat
 |[]=>0
 |p::r=>(if b p=true then 0 else 1+newP b p)+bW (Gn b p) r
def jB(b:Nat→Bool)(L:List Nat):Nat→Bool:=fun r=>b r||decide (r∈L)
theorem TN(b:Nat→Bool)(p:Nat)(r:List Nat):jB b (p::r)=jB (Gn b p) r:=by
 funext x
 unfold jB Gn
 simp only[List.mem_cons,Bool.or_assoc,Bool.decide_or]
theorem XL{b:Nat→Bool}{p:Nat}(hp:p<1024)(hb:b p=false):rH (Gn b p)=rH b+1+newP b p:=by
 have far:∀y,y≠p/32→mM (Gn b p) y=mM b y:=fun y hy=>by
  rw[Bool.eq_iff_iff,mq,mq]
  constructor
  ·rintro⟨j,hj,h⟩
   refine⟨j,hj,?_⟩
   unfold Gn at h
   rw[decide_eq_false (by omega)]at h
   simpa using h
  ·rintro⟨j,hj,h⟩
   exact⟨j,hj,by unfold Gn;rw[h];rfl⟩
 have h1:=tC (b:=mM b) (d:=mM (Gn b p)) (x:=p/32) far (k:=32) (by omega)
 have h2:=tC (b:=b) (d:=Gn b p) (x:=p) (fun y hy=>by unfold Gn;rw[decide_eq_false hy];simp) (k:=1024) hp
 have h3:mM (Gn b p) (p/32)=true:=wZ (by unfold Gn;simp)
 have h4:Gn b p p=true:=by unfold Gn;simp
 rw[if_pos h3]at h1
 rw[if_pos h4,hb]at h2
 simp only[Bool.false_eq_true,if_false]at h2
 unfold rH newP
 split at h1
 ·rename_i hh;rw[if_pos hh];omega
 ·rename_i hh;rw[if_neg hh];omega
theorem Gp:∀(L:List Nat) (b:Nat→Bool),(∀p∈L,p<1024)→rH (jB b L)=rH b+bW b L
 |[],b,_=>by
  have:jB b []=b:=by funext r;simp[jB]
  rw[this];rfl
 |p::r,b,h=>by
  rw[TN,Gp r _ (fun x hx=>h x (List.mem_cons_of_mem _ hx)),bW]
  cases hb:b p with
  |true=>rw[adD hb];simp
  |false=>rw[XL (h p (by simp)) hb];simp;omega
theorem LY{b d:Nat→Bool}(h:∀p,p<1024→b p=d p):rH b=rH d:=by
 unfold rH
 rw[qO (b:=d) (d:=b) (fun y hy=>h y hy),qO (b:=mM d) (d:=mM b) (fun y hy=>by
  rw[Bool.eq_iff_iff,mq,mq]
  constructor
  ·rintro⟨j,hj,hb⟩;exact⟨j,hj,by rw[←h _ (by omega)];exact hb⟩
  ·rintro⟨j,hj,hb⟩;exact⟨j,hj,by rw[h _ (by omega)];exact hb⟩)]
def rV(b:Nat→Bool)(m k:Nat):Nat→Bool:=fun r=>b r||(decide (m≤r)&&decide (r<m+k))
theorem TP(b:Nat→Bool)(m:Nat):rV b m 0=b:=by
 funext r
 unfold rV
 rw[show(decide (m≤r)&&decide (r<m+0))=false by by_cases h:m≤r<;>simp[h]]
 simp
theorem TQ(b:Nat→Bool)(m k:Nat):Gn (rV b m k) (m+k)=rV b m (k+1):=by
 funext r
 unfold Gn rV
 by_cases h1:m≤r
 ·by_cases h2:r<m+k
  ·simp[h1,h2];omega
  ·by_cases h3:r=m+k
   ·subst h3;simp
   ·simp[h1,h2,h3];omega
 ·have:r≠m+k:=by omega
  simp[h1,this]
structure oO(b:Nat→Bool)(m k:Nat)(last:Int):Prop where
 lo: -1≤last∧last≤100000
 Ea:0≤last→∃r,m≤r∧r<m+k∧((r/32:Nat):Int)=last
 at_:0<k→mM b ((m+k-1)/32)=false→last=(((m+k-1)/32:Nat):Int)
theorem oO.start(b:Nat→Bool)(m:Nat):oO b m 0 (-1):=⟨by omega,fun h=>by omega,fun h=>by omega⟩
theorem oO.skip{b:Nat→Bool}{m k:Nat}{last:Int}(h:oO b m k last)(hb:b (m+k)=true):oO b m (k+1) last:=
 ⟨h.lo,fun h0=>by obtain⟨r,a,c,d⟩:=h.Ea h0;exact⟨r,a,by omega,d⟩,fun _ h1=>by
  rw[show m+(k+1)-1=m+k by omega,wZ hb]at h1;cases h1⟩
theorem oO.here{b:Nat→Bool}{m k:Nat}(hm:m+k≤100000):oO b m (k+1) ((((m+k)/32:Nat)):Int):=
 ⟨by omega,fun _=>⟨m+k,by omega,by omega,rfl⟩,fun _ _=>by rw[show m+(k+1)-1=m+k by omega]⟩
theorem oO.same{b:Nat→Bool}{m k:Nat}{last:Int}(h:oO b m k last)(hl:last=(((m+k)/32:Nat):Int)):newP (rV b m k) (m+k)=0:=by
 obtain⟨r,h1,h2,h3⟩:=h.Ea (by omega)
 unfold newP
 rw[if_pos]
 have:rV b m k r=true:=by unfold rV;simp[h1,h2]
 have:=wZ this
 rwa [show r/32=(m+k)/32 by omega]at this
theorem oO.other{b:Nat→Bool}{m k:Nat}{last:Int}(h:oO b m k last)(hl:last≠(((m+k)/32:Nat):Int)):newP (rV b m k) (m+k)=if mM b ((m+k)/32)=true then 0 else 1:=by
 unfold newP
 have:mM (rV b m k) ((m+k)/32)=mM b ((m+k)/32):=by
  rw[Bool.eq_iff_iff]
  constructor
  ·intro hh
   obtain⟨r,h1,h2⟩:=Qt hh
   unfold rV at h2
   by_cases hb:b r=true
   ·rw[←h1];exact wZ hb
   ·simp only[Bool.not_eq_true]at hb
    rw[hb]at h2
    simp only[Bool.false_or,Bool.and_eq_true,decide_eq_true_eq]at h2
    cases hx:mM b ((m+k)/32)with
    |true=>rfl
    |false=>
     have e:(m+k-1)/32=(m+k)/32:=by omega
     have:=h.at_ (by omega) (by rw[e];exact hx)
     rw[e]at this
     exact absurd this hl
  ·intro hh
   obtain⟨r,h1,h2⟩:=Qt hh
   rw[←h1];exact wZ (by unfold rV;rw[h2];rfl)
 rw[this]
theorem Gq(m n:Nat):span m (n+1)=m::span (m+1) n:=rfl
theorem TU(b:Nat→Bool)(m k:Nat){n:Nat}(h:k<n):bW (rV b m k) (span (m+k) (n-k))=(if b (m+k)=true then 0 else 1+newP (rV b m k) (m+k))+bW (rV b m (k+1)) (span (m+(k+1)) (n-(k+1))):=by
 obtain⟨d,rfl⟩:∃d,n=k+(d+1):=⟨n-k-1,by omega⟩
 rw[show k+(d+1)-k=d+1 by omega,show k+(d+1)-(k+1)=d by omega,Gq,bW,TQ]
 have:rV b m k (m+k)=b (m+k):=by unfold rV;simp
 rw[this];rfl
end Go.Proofs.YtammlljefhakmaaGreatDoor
namespace Go.Proofs.YtammlljefhakmaaGreatDoor
open Go.RowKit Go.Maps
set_option maxRecDepth 100000
theorem cells_one{w:World}{k:Nat}{a:Value}{t:TypeId}(h:w.heap[k]? =some (.cells #[a] t (0,0))):w.cell? ⟨k,0,none⟩=some a∧w.frozen? ⟨k,0,none⟩=false:=
 ⟨by rw[cell_of_row _ _ _ _ _ _ h];rfl,frozen_of_row _ _ _ _ _ h⟩
section
variable {W0 w:World} {I:lK} {c:Nat} {Q:Nat→Nat} {V:Nat→Nat→Int} {Lb:List Nd} {G:Int→Option Pc} {D:Int→Option Sp}
theorem xk(F:Sp)(p:Nat):∃x1 x2 g,MJ F p=((lM F p&&decide (p<1024)),x1,x2,g):=by
 unfold MJ lM
 by_cases hp:p<1024
 ·by_cases hF:(F p).1=true
  ·rw[if_pos ⟨hp,hF⟩]
   exact⟨(F p).2.1,(F p).2.2.1,(F p).2.2.2,by rw[hF];simp[hp];rw[←hF]⟩
  ·rw[if_neg (fun e=>hF e.2)]
   exact⟨false,false,0,by simp[hF,z0]⟩
 ·rw[if_neg (fun e=>hp e.1)]
  exact⟨false,false,0,by simp[hp,z0]⟩
theorem Gr(m n i:Nat)(hi:i<n):(span m n).getD i 0=m+i:=LJ m n i hi
theorem mD(m n:Nat):(span m n).length=n:=by simp[span]
theorem BL.queryP(h:BL W0 w I c Q V Lb G D){i:Int}{s:Pc}{F:Sp}(hG:G i=some s)(hD:D i=some F)(p:Nat)(hp:p≤100000){x0 x1 x2:Bool}{g:Int}(he:MJ F p=(x0,x1,x2,g)):
  Calls Tryz.prog 136 #[.pointer (some ⟨I.tb,0,none⟩), .int .i64 (s.root:Int), .int .i64 (p:Int)] w fun e w'=>e= .returned (.tuple #[ent x0 x1 x2 g, .bool x0])∧Below w.heap.size w w':=by
 have hr:=h.root hG
 have hn:=h.mo.1
 obtain⟨W,Pb,h1,h2⟩:=h
 have hw:=h2.of hG hD
 have hx:x0=decide (eu W (s.root:Int) (p:Int)=0)∧Cn W (s.root:Int) (p:Int)=(x0,x1,x2,g):=by
  rw[←he]
  have hx0:x0=(MJ F p).1:=by rw[he]
  rw[hx0]
  unfold Cn MJ
  by_cases hp1:p<1024
  ·rw[Gl hw hp1]
   by_cases hF:(F p).1=true
   ·simp only[hF,hp1,if_true,and_self]
    refine⟨rfl,?_⟩
    unfold KS;rw[gP,hw];simp
   ·simp[hF,z0]
  ·rw[Om hp1];simp[hp1,z0]
 have:=h1.sys.query (s.root:Int) (p:Int) (Dh (by omega)) (Dh hp) (p:=x0) (x:=x1) (k:=x2) (g:=g) hx.2
 rw[←hx.1]at this
 exact this
set_option maxHeartbeats 2000000 in
theorem BL.XM(h:BL W0 w I c Q V Lb G D){i:Int}{s:Pc}{F:Sp}(hG:G i=some s)(hD:D i=some F){p:Nat}(hp:p<1024):
  Calls Tryz.prog 183 #[.pointer (some ⟨I.ss,0,none⟩), .pointer (some ⟨s.blk,0,none⟩), .int .i64 (p:Int)] w fun e w'=>e= .returned (.bool (mM (lM F) (p/32)))∧Below w.heap.size w w':=by
 have pE:∀(fn:Fn) (first cap:Array Value) (w:World),(Instr.makeFunc fn first cap).run Tryz.prog w= .ok (.func fn first cap) w:=fun _ _ _ _=>rfl
 obtain⟨w1,hw1⟩:∃w1,w1=w.alloc (.cells #[.bool false] 4):=⟨_,rfl⟩
 have B1:Hid (Below w.heap.size w w1):=Lib.hid (by rw[hw1];exact(Below.refl _ _).alloc (Nat.le_refl _) _)
 have N1:Hid (w1.heap[w.heap.size]? =some (.cells #[.bool false] 4 (0,0))):=Lib.hid (by rw[hw1];exact heap_alloc_new w _)
 have e1:(p:Int).tmod 32=((p%32:Nat):Int):=by rw[Int.tmod_eq_emod_of_nonneg (by omega)];omega
 have e2:(p:Int)-((p%32:Nat):Int)=((32*(p/32):Nat):Int):=by omega
 have g0: -9223372036854775808≤(p:Int)-((p%32:Nat):Int):=by omega
 have g1:(p:Int)-((p%32:Nat):Int)≤9223372036854775807:=by omega
 have RN:=Lib.hid (XB (32*(p/32)) 32 (by omega) (by omega) w1)
 rw[←e2]at RN
 have H:=Lib.hid h
 have HG:=Lib.hid hG
 have HD:=Lib.hid hD
 obtain⟨bt,hbt⟩:∃bt,bt=mM (lM F) (p/32):=⟨_,rfl⟩
 have ER:Hid (((List.range 32).any fun j=>lM F (32*(p/32)+j))=bt):=Lib.hid hbt.symm
 rw[←hbt]
 clear h hG hD e2 hbt
 subst hw1
 go_enter Tryz.func183,Tryz.ntmps183
 go_wp2_with fail
 refine RN.out.mono ?_
 rintro e w2 ⟨v,rfl,hpg,hb2⟩
 have B2:=Lib.hid (B1.out.trans (hb2.mono B1.out.size))
 have N2:=Lib.hid (below_block hb2 N1.out)
 have WK:=Lib.hid (om I.ss s.blk I.tb 220 (s.root:Int) #[.pointer (some ⟨w.heap.size,0,none⟩)] LU v (span (32*(p/32)) 32)
  (fun k V=>Below w.heap.size w V∧jw V v (span (32*(p/32)) 32)∧V.heap[w.heap.size]? =some (.cells #[.bool ((List.range k).any fun j=>lM F (32*(p/32)+j))] 4 (0,0)))
  (fun _ _=>False) w2
  (fun k V ⟨a,b,_⟩=>⟨(H.out.step a).cells.2.2.2.2.1,((H.out.step a).iK HG.out).2.1,b⟩)
  (fun k V V' ⟨a,b,d⟩ hb=>⟨a.trans (hb.mono a.size),b.keep (ay.below hb),below_block hb d⟩)
  (fun k V hk ⟨a,b,d⟩=>by
   rw[mD]at hk
   rw[Gr _ _ _ hk]
   obtain⟨x1,x2,g,he⟩:=xk F (32*(p/32)+k)
   rw[show decide (32*(p/32)+k<1024)=true from decide_eq_true (by omega),Bool.and_true]at he
   have hon:∃x0,x0=lM F (32*(p/32)+k):=⟨_,rfl⟩
   obtain⟨x0,hx0⟩:=hon
   rw[←hx0]at he
   refine⟨x0,x1,x2,g,x0,fun V' hb=>(H.out.step (a.trans (hb.mono a.size))).queryP HG.out HD.out _ (by omega) he,fun V' hb=>?_⟩
   refine(aaD w.heap.size _ x0 x1 x2 _ g V' (below_block hb d)).mono ?_
   rintro e w' ⟨rfl,w3,hb3,rfl⟩
   have hbx:Below w.heap.size w w3:=(a.trans (hb.mono a.size)).trans (hb3.mono (a.trans (hb.mono a.size)).size)
   have hd3:=below_block hb3 (below_block hb d)
   refine⟨0,rfl,Or.inl ⟨rfl,hbx.setCell (p:=⟨w.heap.size,0,none⟩) (Nat.le_refl _) _,?_,?_⟩⟩
   ·obtain⟨av,cv,e1,e2⟩:=(b.keep (ay.below hb)).keep (ay.below hb3)
    refine⟨av,cv,e1,e2.imp id ?_⟩
    rintro⟨bb,cs,k1,k2,k3⟩
    have hne:bb≠w.heap.size:=by
     rintro rfl
     rw[hd3]at k2
     simp only[Option.some.injEq,Obj.cells.injEq]at k2
     exact absurd k2.2.1 (by decide)
    exact⟨bb,cs,k1,(Below.heap_setCell _ _ _ _ hne).trans k2,k3⟩
   ·have:=heap_setCell_same w3 w.heap.size 0 _ _ (.bool (((List.range k).any fun j=>lM F (32*(p/32)+j))||x0)) hd3
    rw[hx0]at this ⊢
    rw[List.range_succ,List.any_append]
    simpa using this)
  ⟨B2.out,hpg,N2.out⟩ (by rw[mD];omega))
 clear hb2 hpg
 go_wp2_with fail
 refine WK.out.mono ?_
 rintro e w3 ⟨er,rfl,⟨rfl,hb3,ahG,hd3⟩|⟨_,hf⟩⟩
 ·rw[mD,ER.out]at hd3
  have B3:=Lib.hid hb3
  have y0:=(cells_one hd3).1
  clear hb3 ahG hd3
  go_wp2_with fail
  go_ret
  exact⟨rfl,B3.out⟩
 ·exact hf.elim
end
end Go.Proofs.YtammlljefhakmaaGreatDoor
namespace Go.Proofs.YtammlljefhakmaaGreatDoor
open Go.RowKit Go.Maps
set_option maxRecDepth 100000
def DV(b:Nat→Bool):List Nat:=(List.range 1024).filter b
theorem LZ(F:Sp):∀k,(vO F 0 k).map (·.1)=((List.range k).filter (fun p=>(F p).1)).map (fun(n:Nat)=>(n:Int))
 |0=>rfl
 |k+1=>by
  rw[vO,List.map_append,LZ F k,List.range_succ,List.filter_append,List.map_append]
  congr 1
  rw[Nat.zero_add]
  cases h:(F k).1<;>simp[h]
theorem Qw(F:Sp):(NZ F).map (·.1)=(DV (fun p=>(F p).1)).map (fun(n:Nat)=>(n:Int)):=LZ F 1024
theorem L6(F:Sp):(NZ F).length=(DV (fun p=>(F p).1)).length:=by
 have:=congrArg List.length (Qw F)
 simpa using this
theorem aaE(F:Sp):(DV (fun p=>(F p).1)).length=Ae F:=rfl
theorem L8:∀(l:List sV) (i:Nat),i<l.length→(kW l)[i*5]? =some (.int .i64 (l.getD i default).1)∧(kW l)[i*5+1]? =some (.bool (l.getD i default).2.1)∧(kW l)[i*5+2]? =some (.bool (l.getD i default).2.2.1)∧(kW l)[i*5+3]? =some (.bool (l.getD i default).2.2.2.1)∧(kW l)[i*5+4]? =some (.int .i64 (l.getD i default).2.2.2.2)
 |y::r,0,_=>by simp[kW]
 |y::r,i+1,h=>by
  have ih:=L8 r i (by simpa using h)
  have e:kW (y::r)=[.int .i64 y.1, .bool y.2.1, .bool y.2.2.1, .bool y.2.2.2.1, .int .i64 y.2.2.2.2]++kW r:=by simp[kW]
  rw[e,show(i+1)*5=i*5+5 by omega]
  simpa[List.getElem?_append_right]using ih
theorem aaF(w:World)(o:Obj)(u:Value)(t:TypeId):∀(j:Nat) (x:Value),[u][j]? =some x→((w.alloc o).alloc (.cells #[u] t)).cell? ((⟨w.heap.size+1,0,none⟩:Addr).add j)=some x:=fun j x hx=>by
 have:=ZT (w.alloc o) u t j x hx
 rwa [show(w.alloc o).heap.size=w.heap.size+1 by simp]at this
def XO(w:World)(L:List Nat)(e:Ending)(w':World):Prop:=∃v,e= .returned v∧w'.ownsRow w.heap.size 3 1 v L.length (zG L)∧Below w.heap.size w w'
section
variable {W0 w:World} {I:lK} {c:Nat} {Q:Nat→Nat} {V:Nat→Nat→Int} {Lb:List Nd} {G:Int→Option Pc} {D:Int→Option Sp}
set_option maxHeartbeats 4000000 in
theorem BL.mapped(h:BL W0 w I c Q V Lb G D){i:Int}{s:Pc}{F:Sp}(hG:G i=some s)(hD:D i=some F):
  Calls Tryz.prog 96 #[.pointer (some ⟨I.ss,0,none⟩), .pointer (some ⟨s.blk,0,none⟩)] w (XO w (DV fun p=>(F p).1)):=by
 obtain⟨ii,hi,hi0,hi1,hi2⟩:=info_parts Wi
 have c4:=h.cells.2.2.2.2.1
 have s1:=(h.iK hG).2.1
 have AL:=Lib.hid (show ∀W,Below w.heap.size w W→Calls Tryz.prog 157 #[.pointer (some ⟨I.tb,0,none⟩), .int .i64 (s.root:Int)] W (wR W (NZ F))from fun W hb=>(h.step hb).all hG hD)
 have A1:=Lib.hid (AL.out w.drew (Below.refl _ _).drew)
 obtain⟨L,hL⟩:∃L,L=NZ F:=⟨_,rfl⟩
 have HL:=Lib.hid hL
 have hLen:L.length≤1024:=by
  rw[hL,L6]
  unfold DV
  exact Nat.le_trans (List.length_filter_le _ _) (by simp)
 rw[←hL]at A1
 obtain⟨n,hn⟩:∃n,n=L.length:=⟨_,rfl⟩
 have HN:=Lib.hid hn
 have hn1:n≤1024:=by omega
 obtain⟨T,hT⟩:∃T,T=DV fun p=>(F p).1:=⟨_,rfl⟩
 have HT:=Lib.hid (show T.length=n∧∀k,k<n→(L.getD k default).1=((T.getD k 0:Nat):Int)from by
  have h1:=L6 F
  have h2:=Qw F
  rw[←HL.out,←hT]at h1 h2
  refine⟨by omega,fun k hk=>?_⟩
  have h3:=congrArg (fun l=>l.getD k 0) h2
  simp only[List.getD_eq_getElem?_getD,List.getElem?_map]at h3
  rw[List.getD_eq_getElem?_getD,List.getD_eq_getElem?_getD,List.getElem?_eq_getElem (by omega)]
  rw[List.getElem?_eq_getElem (by omega),List.getElem?_eq_getElem (by omega)]at h3
  rw[List.getElem?_eq_getElem (by omega)]
  simpa using h3)
 rw[←hT]
 clear hT hn hLen
 clear h hG hD hL
 go_enter Tryz.func96,Tryz.ntmps96
 go_wp2_with fail
 go_region_held3 (fun W=>W.cell? ⟨I.ss,4,none⟩=some (.pointer (some ⟨I.tb,0,none⟩))∧W.cell? ⟨s.blk,1,none⟩=some (.int .i64 (s.root:Int))) (first|go_keep|exact⟨c4,s1⟩)
  (first
   |((go_at_call 157;with_reducible refine A1.out.mono ?_);rintro e w1 ⟨v,rfl,ho,hb⟩;have O1:=Lib.hid ho;have B1:Hid (Below w.heap.size w w1):=Lib.hid (eF hb);have c4:=(B1.out.cell (p:=⟨I.ss,4,none⟩) (oH (a:=⟨I.ss,4,none⟩) c4)).trans c4;have s1:=(B1.out.cell (p:=⟨s.blk,1,none⟩) (oH (a:=⟨s.blk,1,none⟩) s1)).trans s1;clear hb;obtain⟨am,cm,rfl⟩:∃am cm,v= .slice am L.length cm:=(by rcases ho.2 with⟨rfl,h0⟩|⟨g,cap,cur,rfl,_⟩;exact⟨none,0,by rw[h0]⟩;exact⟨_,_,rfl⟩);clear ho))
 rw[←HN.out]at O1 ⊢
 clear c4 s1 AL A1
 go_wp2_with fail
 go_loopw [5,18] (fun l i wr=>∃k:Nat,i= .int .i64 (k:Int)∧k≤n∧wr.ownsRow w1.heap.size 3 1 l k (zG (T.take k))∧Below w1.heap.size w1 wr) (fun _ i _=>(n-(intOf i).toNat))
 case atStart=>exact⟨0,rfl,Nat.zero_le _,World.ownsRow_nil _ _ _ _,Below.refl _ _⟩
 case round=>
  obtain⟨k,rfl,hk,ho,hB⟩:=hrel
  have O:=Lib.hid ho
  have B:=Lib.hid hB
  by_cases hlt:k<n
  ·have O1w:=gN O1.out hB
   rcases O1.out.2 with⟨_,h0⟩|⟨g,cap,cur,he,_,hgg,_⟩
   ·omega
   obtain⟨rfl,rfl⟩:am=some ⟨g,0,none⟩∧cm=cap:=by injection he with e1 e2 e3;exact⟨e1,e3⟩
   obtain⟨a0,a1,a2,a3,a4⟩:=L8 L k (by have:=HN.out;omega)
   have b0:=O1w.cells (g:=g) rfl _ _ a0
   have b1:=O1w.cells (g:=g) rfl _ _ a1
   have b2:=O1w.cells (g:=g) rfl _ _ a2
   have b3:=O1w.cells (g:=g) rfl _ _ a3
   have b4:=O1w.cells (g:=g) rfl _ _ a4
   rw[Addr.add_mid,Nat.zero_add]at b0 b1 b2 b3 b4
   rw[(HT.out.2 k hlt)]at b0
   generalize(L.getD k default).2=en at b1 b2 b3 b4
   obtain⟨x0,x1,x2,g0⟩:=en
   simp only at b1 b2 b3 b4
   obtain⟨pg,hpg⟩:∃pg,pg=T.getD k 0:=⟨_,rfl⟩
   rw[←hpg]at b0
   have TS:Hid (T.take (k+1)=T.take k++[pg]):=Lib.hid (by
    have hkl:k<T.length:=by have:=HT.out.1;omega
    rw[List.take_succ_eq_append_getElem hkl,hpg,List.getD_eq_getElem?_getD,List.getElem?_eq_getElem hkl];rfl)
   obtain⟨w2,hw2⟩:∃w2,w2=wr.alloc (.cells #[.int .i64 (pg:Int), .bool x0, .bool x1, .bool x2, .int .i64 g0] 243):=⟨_,rfl⟩
   have A2:Hid (Below wr.heap.size wr w2):=Lib.hid (by rw[hw2];exact(Below.refl _ _).alloc (Nat.le_refl _) _)
   have O3:=Lib.hid ((gN O.out A2.out).alloc (.cells #[.int .i64 (pg:Int)] 3))
   have A3:Hid (Below w1.heap.size w1 (w2.alloc (.cells #[.int .i64 (pg:Int)] 3))):=Lib.hid ((B.out.trans (A2.out.mono B.out.size)).alloc (Nat.le_trans B.out.size A2.out.size) _)
   have hbs:w1.heap.size≤(w2.alloc (.cells #[.int .i64 (pg:Int)] 3)).heap.size:=A3.out.size
   subst hw2
   clear ho hB O1w he hgg a0 a1 a2 a3 a4 hpg
   go_wp2_with(at_builtin;refine wpList_append_own _ rfl (.tmp 22) (.tmp 25) 54 rfl w1.heap.size 3 ii (.int .i64 0) 1 8 Tryz.underlying54 hi hi0 hi1 hi2 rfl (by decide) _ k _ rfl O3.out ⟨_,0,none⟩ 1 1 [.int .i64 (pg:Int)] rfl rfl (aaF _ _ _ _) (by simp[Value.oneCell']) (by unfold maxLen;omega) (by omega) hbs ?_;intro v4 w4 ho hg _)
   have O4:Hid (w4.ownsRow w1.heap.size 3 1 v4 (k+1) (zG (T.take (k+1)))):=Lib.hid (by rw[TS.out,NK];exact ho)
   have B4:=Lib.hid (A3.out.grown hg hbs (fun j hj=>(O3.out.lt j hj).1))
   clear ho hg
   go_wp2_with fail
   go_roundw
   case rel=>exact⟨k+1,by go_num,by omega,O4.out,B4.out⟩
   case measure=>simp[intOf];omega
  ·obtain rfl:k=n:=by omega
   clear ho hB
   go_wp2
   go_ret
   refine⟨_,rfl,?_,B1.out.trans (B.out.mono B1.out.size)⟩
   have:=O.out
   rw[List.take_of_length_le (by have:=HT.out.1;omega)]at this
   rw[HT.out.1]
   exact pF this B1.out.size
end
end Go.Proofs.YtammlljefhakmaaGreatDoor
namespace Go.Proofs.YtammlljefhakmaaGreatDoor
open Go.RowKit Go.Maps
set_option maxRecDepth 100000
section
variable {W0 w:World} {I:lK} {c:Nat} {Q:Nat→Nat} {V:Nat→Nat→Int} {Lb:List Nd} {G:Int→Option Pc} {D:Int→Option Sp}
set_option maxHeartbeats 4000000 in
theorem BL.cost(h:BL W0 w I c Q V Lb G D){i:Int}{s:Pc}{F:Sp}(hG:G i=some s)(hD:D i=some F):
  Calls Tryz.prog 94 #[.pointer (some ⟨I.ss,0,none⟩), .pointer (some ⟨s.blk,0,none⟩)] w fun e w'=>e= .returned (.int .i64 (cO F:Int))∧Below w.heap.size w w':=by
 have TB:=Lib.hid (show ∀W,Below w.heap.size w W→Calls Tryz.prog 156 #[.pointer (some ⟨I.tb,0,none⟩), .int .i64 (s.root:Int)] W fun e w'=>e= .returned (.int .i64 (vP F:Int))∧Below W.heap.size W w' from fun W hb=>(h.step hb).tables hG hD)
 have MP:=Lib.hid (show ∀W,Below w.heap.size w W→Calls Tryz.prog 96 #[.pointer (some ⟨I.ss,0,none⟩), .pointer (some ⟨s.blk,0,none⟩)] W fun e w'=>∃am cm,e= .returned (.slice am (Ae F) cm)∧Below W.heap.size W w' from fun W hb=>((h.step hb).mapped hG hD).mono fun e w' ⟨v,he,ho,hb'⟩=>by
  rw[aaE]at ho
  rcases ho.2 with⟨rfl,h0⟩|⟨g,cap,cur,rfl,_⟩
  ·exact⟨none,0,by rw[he,h0],hb'⟩
  ·exact⟨_,_,he,hb'⟩)
 have CW:Hid (∀W,Below w.heap.size w W→W.cell? ⟨I.ss,4,none⟩=some (.pointer (some ⟨I.tb,0,none⟩))∧W.cell? ⟨s.blk,1,none⟩=some (.int .i64 (s.root:Int))):=Lib.hid fun W hb=>⟨(h.step hb).cells.2.2.2.2.1,((h.step hb).iK hG).2.1⟩
 have T0:=Lib.hid (TB.out w.drew (Below.refl _ _).drew)
 have M0:=Lib.hid (MP.out w.drew (Below.refl _ _).drew)
 have e1:cO F=vP F+Ae F:=rfl
 have ht:vP F≤33:=by
  unfold vP
  have:=List.length_filter_le (hasB F) (List.range 32)
  rw[List.length_range]at this
  omega
 have hp:Ae F≤1024:=by
  unfold Ae rU
  exact Nat.le_trans (List.length_filter_le _ _) (by simp)
 have E1:=Lib.hid e1
 obtain⟨c4,s1⟩:=CW.out w (Below.refl _ _)
 clear h hG hD e1
 generalize vP F=ta at*
 generalize Ae F=pn at*
 generalize cO F=co at*
 have d4:IntKind.i64.wrap ((ta:Int)+(pn:Int))=(ta:Int)+(pn:Int):=IntWalk.i64_in _ (by omega)
 go_enter Tryz.func94,Tryz.ntmps94
 go_wp2_with fail
 go_region_held3 (fun W=>W.cell? ⟨I.ss,4,none⟩=some (.pointer (some ⟨I.tb,0,none⟩))∧W.cell? ⟨s.blk,1,none⟩=some (.int .i64 (s.root:Int))) (first
   |go_keep
   |with_reducible exact CW.out _ (Below.refl _ _).drew
   |with_reducible exact CW.out w1 B1.out
   |with_reducible exact CW.out w2 BB.out)
  (first
   |((go_at_call 156;with_reducible refine T0.out.mono ?_);rintro e w1 ⟨rfl,hb⟩;have B1:Hid (Below w.heap.size w w1):=Lib.hid (eF hb);clear hb)
   |((go_at_call 96;with_reducible refine M0.out.mono ?_);rintro e w1 ⟨am,cm,rfl,hb⟩;have B1:Hid (Below w.heap.size w w1):=Lib.hid (eF hb);clear hb)
   |((go_at_call 156;with_reducible refine(TB.out w1 B1.out).mono ?_);rintro e w2 ⟨rfl,hb⟩;have BB:Hid (Below w.heap.size w w2):=Lib.hid (B1.out.trans (hb.mono B1.out.size));clear hb)
   |((go_at_call 96;with_reducible refine(MP.out w1 B1.out).mono ?_);rintro e w2 ⟨am,cm,rfl,hb⟩;have BB:Hid (Below w.heap.size w w2):=Lib.hid (B1.out.trans (hb.mono B1.out.size));clear hb))
 all_goals
  go_wp2_with fail
  go_ret
  exact⟨by rw[E1.out];simp,BB.out⟩
end
def L9(w:World)(v:Value)(L:List Nd):Prop:=∃a cp,v= .slice a L.length cp∧(L=[]∨∃g,a=some ⟨g,0,none⟩∧g<w.heap.size∧∀i,i<L.length→w.cell? ⟨g,i*4,none⟩=some (.int .i64 (L.getD i default).1)∧w.cell? ⟨g,i*4+1,none⟩=some (.int .i64 (L.getD i default).2.1)∧w.cell? ⟨g,i*4+2,none⟩=some (.int .i64 (L.getD i default).2.2.1)∧w.cell? ⟨g,i*4+3,none⟩=some (.int .i64 (L.getD i default).2.2.2))
theorem L9.lJ{w:World}{base:Nat}{v:Value}{L:List Nd}(h:w.ownsRow base 155 4 v L.length (su L)):L9 w v L:=by
 have h':=h
 rcases h.2 with⟨rfl,h0⟩|⟨g,cap,cur,rfl,hb,hgg,_⟩
 ·exact⟨none,0,by rw[h0],Or.inl (List.eq_nil_of_length_eq_zero h0)⟩
 ·refine⟨_,_,rfl,Or.inr ⟨g,rfl,lt_of_block hgg,fun i hi=>?_⟩⟩
  obtain⟨a0,a1,a2,a3⟩:=Js L i hi
  have b0:=h'.cells (g:=g) rfl _ _ a0
  have b1:=h'.cells (g:=g) rfl _ _ a1
  have b2:=h'.cells (g:=g) rfl _ _ a2
  have b3:=h'.cells (g:=g) rfl _ _ a3
  rw[Addr.add_mid,Nat.zero_add]at b0 b1 b2 b3
  exact⟨b0,b1,b2,b3⟩
def afu(w:World)(p:Nd→Bool)(L:List Nd)(n:Nat)(i:Value)(wr:World):Prop:=∃j:Nat,i= .int .i64 (j:Int)∧j≤n∧Below w.heap.size w wr∧(L.take j).any p=false
theorem TV(p:Nd→Bool)(L:List Nd)(j:Nat)(h:j<L.length)(h1:(L.take j).any p=false)(h2:p (L.getD j default)=false):(L.take (j+1)).any p=false:=by
 rw[Rh h,List.any_append,h1];simpa using h2
theorem XQ(p:Nd→Bool)(L:List Nd)(j:Nat)(h:j<L.length)(h2:p (L.getD j default)=true):L.any p=true:=List.any_eq_true.2 ⟨_,xM h,h2⟩
set_option maxHeartbeats 1000000 in
theorem I9(g:Nat)(caps:Array Value)(hent:∀(args:Array Value) (W:World),(callFunc g args).run Tryz.prog W= .ok (.enter g args) W)(p:Nd→Bool)(v:Value)(L:List Nd)(hl:L.length≤1000)(w:World)(h:L9 w v L)
  (hp:∀(W:World) (x:Nd),Below w.heap.size w W→Calls Tryz.prog g (#[.agg #[.int .i64 x.1, .int .i64 x.2.1, .int .i64 x.2.2.1, .int .i64 x.2.2.2]]++caps) W fun e w'=>e= .returned (.bool (p x))∧Below W.heap.size W w'):
  Calls Tryz.prog 206 #[v, .func (.func g) #[] caps] w fun e w'=>∃r:Int,e= .returned (.int .i64 r)∧decide (0≤r)=L.any p∧Below w.heap.size w w':=by
 obtain⟨a,c,rfl,hS⟩:=h
 obtain⟨n,hn⟩:∃n,n=L.length:=⟨_,rfl⟩
 rw[←hn]at hl ⊢
 have HN:=Lib.hid hn
 have HS:=Lib.hid hS
 have HP:=Lib.hid hp
 clear hn hS hp
 go_enter Tryz.func206,Tryz.ntmps206
 go_wp2_with fail
 go_loopw [8] (fun i wr=>afu w p L n i wr) (fun i _=>(n-(intOf i).toNat))
 case atStart=>exact⟨0,rfl,Nat.zero_le _,Below.refl _ _,by simp⟩
 case round=>
  obtain⟨j,rfl,hj,hB,hall⟩:=hrel
  have B:=Lib.hid hB
  have ALL:=Lib.hid hall
  clear hB hall
  by_cases hlt':j<n
  ·obtain⟨b,rfl,hlt,hc⟩:=HS.out.resolve_left (by intro e;have:=HN.out;rw[e]at this;simp at this;omega)
   obtain⟨c0,c1,c2,c3⟩:=hc j (by have:=HN.out;omega)
   have d0:=(B.out.cell (p:=⟨b,j*4,none⟩) hlt).trans c0
   have d1:=(B.out.cell (p:=⟨b,j*4+1,none⟩) hlt).trans c1
   have d2:=(B.out.cell (p:=⟨b,j*4+2,none⟩) hlt).trans c2
   have d3:=(B.out.cell (p:=⟨b,j*4+3,none⟩) hlt).trans c3
   obtain⟨x,hx⟩:∃x,x=L.getD j default:=⟨_,rfl⟩
   have HX:=Lib.hid hx
   rw[←hx]at d0 d1 d2 d3
   clear hc c0 c1 c2 c3 hx
   go_wp2_with fail
   refine(HP.out _ x B.out).mono ?_
   rintro e w1 ⟨rfl,hb1⟩
   have B1:=Lib.hid (B.out.trans (hb1.mono B.out.size))
   clear hb1
   cases hpr:p x with
   |false=>
    have ahH:=Lib.hid (TV p L j (by have:=HN.out;omega) ALL.out (by rw[←HX.out];exact hpr))
    go_wp2
    go_roundw
    case rel=>exact⟨j+1,by go_num,by omega,B1.out,ahH.out⟩
    case measure=>simp[intOf];omega
   |true=>
    have e:L.any p=true:=XQ p L j (by have:=HN.out;omega) (by rw[←HX.out];exact hpr)
    go_wp2
    go_ret
    exact⟨_,rfl,by rw[e];simp,B1.out⟩
  ·obtain rfl:j=n:=by omega
   have e:L.any p=false:=by have:=ALL.out;rwa [HN.out,List.take_length]at this
   clear hlt'
   go_wp2
   go_ret
   exact⟨_,rfl,by rw[e];simp,B.out⟩
theorem Ah(g:Nat)(caps:Array Value)(hent:∀(args:Array Value) (W:World),(callFunc g args).run Tryz.prog W= .ok (.enter g args) W)(p:Nd→Bool)(v:Value)(L:List Nd)(hl:L.length≤1000)(w:World)(h:L9 w v L)
  (hp:∀(W:World) (x:Nd),Below w.heap.size w W→Calls Tryz.prog g (#[.agg #[.int .i64 x.1, .int .i64 x.2.1, .int .i64 x.2.2.1, .int .i64 x.2.2.2]]++caps) W fun e w'=>e= .returned (.bool (p x))∧Below W.heap.size W w'):
  Calls Tryz.prog 153 #[v, .func (.func g) #[] caps] w fun e w'=>e= .returned (.bool (L.any p))∧Below w.heap.size w w':=by
 have HX:=Lib.hid (I9 g caps hent p v L hl w h hp)
 clear h hp
 go_enter Tryz.func153,Tryz.ntmps153
 go_wp2_with fail
 refine HX.out.mono ?_
 rintro e w1 ⟨r,rfl,hr,hb⟩
 have B:=Lib.hid hb
 have HR:=Lib.hid hr
 clear hb hr
 go_wp2
 go_ret
 exact⟨by rw[←HR.out];rfl,B.out⟩
theorem TY(b:Nat)(i:Int)(x:Nd)(w:World)(hb:w.heap[b]? =some (.cells #[.int .i64 i] 3 (0,0))):Calls Tryz.prog 154 #[.agg #[.int .i64 x.1, .int .i64 x.2.1, .int .i64 x.2.2.1, .int .i64 x.2.2.2], .pointer (some ⟨b,0,none⟩)] w fun e w'=>e= .returned (.bool (decide (x.1=i)))∧Below w.heap.size w w':=by
 have B:Hid (Below w.heap.size w (w.alloc (.cells #[.int .i64 x.1, .int .i64 x.2.1, .int .i64 x.2.2.1, .int .i64 x.2.2.2] 155))):=Lib.hid ((Below.refl _ _).alloc (Nat.le_refl _) _)
 have y0:(w.alloc (.cells #[.int .i64 x.1, .int .i64 x.2.1, .int .i64 x.2.2.1, .int .i64 x.2.2.2] 155)).cell? ⟨b,0,none⟩=some (.int .i64 i):=by rw[cell_of_row _ _ _ _ _ _ (below_block B.out hb)];rfl
 clear hb
 obtain⟨x0,x1,x2,x3⟩:=x
 simp only at y0 B ⊢
 by_cases e:x0=i
 ·subst e
  go_enter Tryz.func154,Tryz.ntmps154
  go_wp2
  go_ret
  exact⟨by simp,B.out⟩
 ·have e':(x0==i)=false:=by simpa using e
  go_enter Tryz.func154,Tryz.ntmps154
  go_wp2
  go_ret
  exact⟨by simp[e],B.out⟩
theorem adE(L:List Nd)(i:Int):(L.any fun n=>decide (n.1=i))=(aD i L).isSome:=by
 induction L with
 |nil=>rfl
 |cons n r ih=>
  rw[List.any_cons,ih,aD]
  by_cases e:n.1=i<;>simp[e]
section
variable {W0 w:World} {I:lK} {c:Nat} {Q:Nat→Nat} {V:Nat→Nat→Int} {Lb:List Nd} {G:Int→Option Pc} {D:Int→Option Sp}
set_option maxHeartbeats 1000000 in
theorem BL.tQ(h:BL W0 w I c Q V Lb G D)(i:Int):
  Calls Tryz.prog 92 #[.pointer (some ⟨I.ss,0,none⟩), .int .i64 i] w fun e w'=>e= .returned (.bool (aD i Lb).isSome)∧Below w.heap.size w w':=by
 have pE:∀(fn:Fn) (first cap:Array Value) (w:World),(Instr.makeFunc fn first cap).run Tryz.prog w= .ok (.func fn first cap) w:=fun _ _ _ _=>rfl
 obtain⟨w1,hw1⟩:∃w1,w1=w.alloc (.cells #[.int .i64 i] 3):=⟨_,rfl⟩
 have B1:Hid (Below w.heap.size w w1):=Lib.hid (by rw[hw1];exact(Below.refl _ _).alloc (Nat.le_refl _) _)
 have N1:Hid (w1.heap[w.heap.size]? =some (.cells #[.int .i64 i] 3 (0,0))):=Lib.hid (by rw[hw1];exact heap_alloc_new w _)
 have AL:=Lib.hid ((h.step B1.out).afq)
 have c3:=(h.step B1.out).cells.2.2.2.1
 have hlen:Lb.length≤8:=by obtain⟨W,Pb,h1,_⟩:=h;exact h1.ko.good.len
 have HE:=Lib.hid (adE Lb i)
 clear h
 subst hw1
 go_enter Tryz.func92,Tryz.ntmps92
 go_wp2_with fail
 refine AL.out.mono ?_
 rintro e w2 ⟨v,rfl,ho,hb⟩
 have B2:=Lib.hid (B1.out.trans (hb.mono B1.out.size))
 have N2:=Lib.hid (below_block hb N1.out)
 have CF:=Lib.hid (Ah 154 #[.pointer (some ⟨w.heap.size,0,none⟩)] (enters Tryz.func154 rfl rfl) (fun n=>decide (n.1=i)) v Lb (by omega) w2 (L9.lJ ho) (fun W x hbw=>TY w.heap.size i x W (below_block hbw N2.out)))
 clear ho hb c3
 go_wp2_with fail
 refine CF.out.mono ?_
 rintro e w3 ⟨rfl,hb3⟩
 have B3:=Lib.hid (B2.out.trans (hb3.mono B2.out.size))
 clear hb3
 go_wp2_with fail
 go_ret
 exact⟨by rw[←HE.out];rfl,B3.out⟩
end
end Go.Proofs.YtammlljefhakmaaGreatDoor
namespace Go.Proofs.YtammlljefhakmaaGreatDoor
open Go.RowKit Go.Maps
set_option maxRecDepth 100000
theorem Ja(a b d f:Nat)(p:Int)(x1 x2:Bool)(g:Int)(w:World):Calls Tryz.prog 182 #[.int .i64 p,ent true x1 x2 g, .pointer (some ⟨a,0,none⟩), .pointer (some ⟨b,0,none⟩), .pointer (some ⟨d,0,none⟩), .pointer (some ⟨f,0,none⟩)] w fun e w'=>e= .returned (.int .i64 0)∧Below w.heap.size w w':=by
 have B:Hid (Below w.heap.size w (w.alloc (.cells #[.bool true, .bool x1, .bool x2, .int .i64 g] 217))):=Lib.hid ((Below.refl _ _).alloc (Nat.le_refl _) _)
 go_enter Tryz.func182,Tryz.ntmps182
 go_wp2
 go_ret
 exact⟨rfl,B.out⟩
structure yO(w0 w:World)(b7 b8 b3 b4 ss blk:Nat)(many last:Int):Prop where
 gG:Below w0.heap.size w0 w
 h7:w.heap[b7]? =some (.cells #[.int .i64 many] 3 (0,0))
 h8:w.heap[b8]? =some (.cells #[.int .i64 last] 3 (0,0))
 cap:Cap w b3 b4 ss blk
 n7:w0.heap.size≤b7
 n8:w0.heap.size≤b8
 ne:b7≠b8
theorem yO.below{w0 w w':World}{b7 b8 b3 b4 ss blk:Nat}{many last:Int}(h:yO w0 w b7 b8 b3 b4 ss blk many last)(hb:Below w.heap.size w w'):yO w0 w' b7 b8 b3 b4 ss blk many last:=
 ⟨h.gG.trans (hb.mono h.gG.size),below_block hb h.h7,below_block hb h.h8,h.cap.below hb,h.n7,h.n8,h.ne⟩
theorem Qx{w:World}{b3 b4 ss blk k:Nat}{x y:Value}(h:Cap w b3 b4 ss blk)(hk:w.heap[k]? =some (.cells #[x] 3 (0,0))):Cap (w.setCell ⟨k,0,none⟩ y) b3 b4 ss blk:=by
 refine⟨(Below.heap_setCell _ _ _ _ fun e=>?_).trans h.h2,(Below.heap_setCell _ _ _ _ fun e=>?_).trans h.h3⟩
 ·have:=h.h2;rw[e,hk]at this;simp only[Option.some.injEq,Obj.cells.injEq]at this;exact absurd this.2.1 (by decide)
 ·have:=h.h3;rw[e,hk]at this;simp only[Option.some.injEq,Obj.cells.injEq]at this;exact absurd this.2.1 (by decide)
theorem yO.many{w0 w:World}{b7 b8 b3 b4 ss blk:Nat}{many last:Int}(h:yO w0 w b7 b8 b3 b4 ss blk many last)(v:Int):yO w0 (w.setCell ⟨b7,0,none⟩ (.int .i64 v)) b7 b8 b3 b4 ss blk v last:=
 ⟨h.gG.setCell (p:=⟨b7,0,none⟩) h.n7 _,heap_setCell_same w b7 0 _ _ (.int .i64 v) h.h7,(Below.heap_setCell _ _ _ _ (fun e=>h.ne e.symm)).trans h.h8,Qx h.cap h.h7,h.n7,h.n8,h.ne⟩
theorem yO.last{w0 w:World}{b7 b8 b3 b4 ss blk:Nat}{many last:Int}(h:yO w0 w b7 b8 b3 b4 ss blk many last)(v:Int):yO w0 (w.setCell ⟨b8,0,none⟩ (.int .i64 v)) b7 b8 b3 b4 ss blk many v:=
 ⟨h.gG.setCell (p:=⟨b8,0,none⟩) h.n8 _,(Below.heap_setCell _ _ _ _ h.ne).trans h.h7,heap_setCell_same w b8 0 _ _ (.int .i64 v) h.h8,Qx h.cap h.h8,h.n7,h.n8,h.ne⟩
section
variable {W0 w:World} {I:lK} {c:Nat} {Q:Nat→Nat} {V:Nat→Nat→Int} {Lb:List Nd} {G:Int→Option Pc} {D:Int→Option Sp}
set_option maxHeartbeats 2000000 in
theorem BL.adF(h:BL W0 w I c Q V Lb G D){i:Int}{s:Pc}{F:Sp}(hG:G i=some s)(hD:D i=some F){U:World}{b7 b8 b3 b4 p many:Nat}{last:Int}(hx:yO w U b7 b8 b3 b4 I.ss s.blk (many:Int) last)(hp:p<1024)(hm:many≤100000)(x1 x2:Bool)(g:Int):
  Calls Tryz.prog 182 #[.int .i64 (p:Int),ent false x1 x2 g, .pointer (some ⟨b7,0,none⟩), .pointer (some ⟨b8,0,none⟩), .pointer (some ⟨b3,0,none⟩), .pointer (some ⟨b4,0,none⟩)] U fun e w'=>e= .returned (.int .i64 0)∧yO w w' b7 b8 b3 b4 I.ss s.blk ((many+1+(if last=((p/32:Nat):Int)then 0 else if mM (lM F) (p/32)=true then 0 else 1):Nat):Int) ((p/32:Nat):Int):=by
 have e1:(p:Int).tdiv 32=((p/32:Nat):Int):=by rw[Int.tdiv_eq_ediv_of_nonneg (by omega)];omega
 obtain⟨U1,hU1⟩:∃U1,U1=U.alloc (.cells #[.bool false, .bool x1, .bool x2, .int .i64 g] 217):=⟨_,rfl⟩
 have X1:=Lib.hid (hx.below (w':=U1) (by rw[hU1];exact(Below.refl _ _).alloc (Nat.le_refl _) _))
 have X2:=Lib.hid (X1.out.many ((many:Int)+1))
 obtain⟨y7,f7⟩:=cells_one X1.out.h7
 obtain⟨y8,f8⟩:=cells_one X2.out.h8
 have d4:IntKind.i64.wrap ((many:Int)+1)=(many:Int)+1:=IntWalk.i64_in _ (by omega)
 have d6:IntKind.i64.wrap ((p/32:Nat):Int)=((p/32:Nat):Int):=IntWalk.i64_in _ (by omega)
 by_cases el:last=((p/32:Nat):Int)
 ·have R:Hid (((many+1+(if last=((p/32:Nat):Int)then 0 else if mM (lM F) (p/32)=true then 0 else 1):Nat):Int)=(many:Int)+1):=Lib.hid (by rw[if_pos el];rfl)
  have R2:=Lib.hid el
  rw[R.out,←el]
  clear R
  have e2:(((p/32:Nat):Int)==last)=true:=by rw[el];simp
  generalize((p/32:Nat):Int)=t at*
  subst el
  clear h hx hG hD R2
  subst hU1
  go_enter Tryz.func182,Tryz.ntmps182
  go_wp2
  go_ret
  exact⟨rfl,X2.out⟩
 ·have X3:=Lib.hid (X2.out.last (((p/32:Nat):Int)))
  have e2:((((p/32:Nat):Int))==last)=false:=by simpa using fun e=>el e.symm
  have HT:=Lib.hid ((h.step X3.out.gG).XM hG hD hp)
  rw[if_neg el]
  obtain⟨z3,z4⟩:_∧_:=⟨X3.out.cap.c2,X3.out.cap.c3⟩
  cases hb:mM (lM F) (p/32)with
  |true=>
   rw[hb]at HT
   have R:Hid (((many+1+(if true=true then 0 else 1):Nat):Int)=(many:Int)+1):=Lib.hid (by simp)
   rw[R.out]
   clear R h hx hG hD hb el
   generalize((p/32:Nat):Int)=t at*
   subst hU1
   go_enter Tryz.func182,Tryz.ntmps182
   go_wp2_with fail
   refine HT.out.mono ?_
   rintro e w4 ⟨rfl,hb4⟩
   have X4:=Lib.hid (X3.out.below hb4)
   clear hb4
   go_wp2_with fail
   go_ret
   exact⟨rfl,X4.out⟩
  |false=>
   rw[hb]at HT
   have R:Hid (((many+1+(if false=true then 0 else 1):Nat):Int)=(many:Int)+1+1):=Lib.hid (by simp)
   rw[R.out]
   have d5:IntKind.i64.wrap ((many:Int)+1+1)=(many:Int)+1+1:=IntWalk.i64_in _ (by omega)
   clear R h hx hG hD hb el
   generalize((p/32:Nat):Int)=t at*
   subst hU1
   go_enter Tryz.func182,Tryz.ntmps182
   go_wp2_with fail
   refine HT.out.mono ?_
   rintro e w4 ⟨rfl,hb4⟩
   have X4:=Lib.hid (X3.out.below hb4)
   have X5:=Lib.hid (X4.out.many ((many:Int)+1+1))
   obtain⟨u7,v7⟩:=cells_one X4.out.h7
   clear hb4 y7 f7 y8 f8
   go_wp2_with fail
   go_ret
   exact⟨rfl,X5.out⟩
set_option maxHeartbeats 2000000 in
theorem BL.needs(h:BL W0 w I c Q V Lb G D){i:Int}{s:Pc}{F:Sp}(hG:G i=some s)(hD:D i=some F){v:Value}{m n:Nat}(hv:jw w v (span m n))(hmn:m+n≤1024):
  Calls Tryz.prog 133 #[.pointer (some ⟨I.ss,0,none⟩), .pointer (some ⟨s.blk,0,none⟩),v] w fun e w'=>e= .returned (.int .i64 (bW (lM F) (span m n):Int))∧Below w.heap.size w w':=by
 have pE:∀(fn:Fn) (first cap:Array Value) (w:World),(Instr.makeFunc fn first cap).run Tryz.prog w= .ok (.func fn first cap) w:=fun _ _ _ _=>rfl
 obtain⟨w1,hw1⟩:∃w1,w1=(w.alloc (.cells #[.pointer (some ⟨I.ss,0,none⟩)] 34)).alloc (.cells #[.pointer (some ⟨s.blk,0,none⟩)] 127):=⟨_,rfl⟩
 obtain⟨w2,hw2⟩:∃w2,w2=(w1.alloc (.cells #[.int .i64 0] 3)).alloc (.cells #[.int .i64 (-1)] 3):=⟨_,rfl⟩
 have z1:w1.heap.size=w.heap.size+1+1:=by rw[hw1];simp
 have b1:Below w.heap.size w w1:=by rw[hw1];exact ak _ _ _
 have b2:Below w1.heap.size w1 w2:=by rw[hw2];exact ak _ _ _
 have X2:Hid (yO w w2 (w.heap.size+1+1) (w.heap.size+1+1+1) w.heap.size (w.heap.size+1) I.ss s.blk 0 (-1)):=Lib.hid
  ⟨b1.trans (b2.mono b1.size),by rw[hw2,←z1];exact heap_alloc2_old w1 _ _,by rw[hw2,←z1];exact heap_alloc2_new w1 _ _,⟨below_block b2 (by rw[hw1];exact heap_alloc2_old w _ _),below_block b2 (by rw[hw1];exact heap_alloc2_new w _ _)⟩,by omega,by omega,by omega⟩
 have H:=Lib.hid h
 have HG:=Lib.hid hG
 have HD:=Lib.hid hD
 have HV:=Lib.hid hv
 obtain⟨y3,y4⟩:_∧_:=⟨X2.out.cap.c2,X2.out.cap.c3⟩
 obtain⟨N,hN⟩:∃N,N=bW (lM F) (span m n):=⟨_,rfl⟩
 have HN:=Lib.hid hN
 have WK:=Lib.hid (om I.ss s.blk I.tb 182 (s.root:Int) #[.pointer (some ⟨w.heap.size+1+1,0,none⟩), .pointer (some ⟨w.heap.size+1+1+1,0,none⟩), .pointer (some ⟨w.heap.size,0,none⟩), .pointer (some ⟨w.heap.size+1,0,none⟩)] Eu v (span m n)
  (fun k U=>∃(many:Nat) (last:Int),yO w U (w.heap.size+1+1) (w.heap.size+1+1+1) w.heap.size (w.heap.size+1) I.ss s.blk (many:Int) last∧oO (lM F) m k last∧many+bW (rV (lM F) m k) (span (m+k) (n-k))=N∧many≤2*k)
  (fun _ _=>False) w2
  (fun k U ⟨_,_,a,_⟩=>⟨(H.out.step a.gG).cells.2.2.2.2.1,((H.out.step a.gG).iK HG.out).2.1,HV.out.keep (ay.below a.gG)⟩)
  (fun k U U' ⟨mn,l,a,b⟩ hb=>⟨mn,l,a.below hb,b⟩)
  (fun k U hk ⟨mn,l,a,b,d,e⟩=>by
   rw[mD]at hk
   rw[Gr _ _ _ hk]
   obtain⟨x1,x2,g,he⟩:=xk F (m+k)
   rw[show decide (m+k<1024)=true from decide_eq_true (by omega),Bool.and_true]at he
   refine⟨lM F (m+k),x1,x2,g,lM F (m+k),fun V' hb=>(H.out.step (a.below hb).gG).queryP HG.out HD.out _ (by omega) he,fun V' hb=>?_⟩
   rw[TU (lM F) m k hk]at d
   cases hx:lM F (m+k)with
   |true=>
    refine(Ja _ _ _ _ _ x1 x2 g V').mono ?_
    rintro e' w' ⟨rfl,hb'⟩
    rw[hx,if_pos rfl,Nat.zero_add]at d
    exact⟨0,rfl,Or.inl ⟨rfl,mn,l,(a.below hb).below hb',b.skip hx,d,by omega⟩⟩
   | false=>
    refine(H.out.adF HG.out HD.out (a.below hb) (by omega) (by omega) x1 x2 g).mono ?_
    rintro e' w' ⟨rfl,hx'⟩
    refine⟨0,rfl,Or.inl ⟨rfl,_,_,hx',oO.here (by omega),?_,?_⟩⟩
    ·rw[hx]at d
     simp only[Bool.false_eq_true,if_false]at d
     rw[←d]
     by_cases el:l=(((m+k)/32:Nat):Int)
     ·rw[if_pos el,b.same el];omega
     ·rw[if_neg el,b.other el];omega
    ·split
     ·omega
     ·split<;>omega)
  ⟨0, -1,X2.out,oO.start _ _,by rw[TP,hN];simp,by omega⟩ (by rw[mD];omega))
 rw[←hN]
 clear h hG hD hv hN z1 b1 b2
 subst hw1 hw2
 go_enter Tryz.func133,Tryz.ntmps133
 go_wp2_with fail
 refine WK.out.mono ?_
 rintro e w3 ⟨er,rfl,⟨rfl,mn,l,a,b,d,e⟩|⟨_,hf⟩⟩
 ·rw[mD,Nat.sub_self]at d
  have d':mn=N:=by simpa[span,bW]using d
  subst d'
  have B3:=Lib.hid a.gG
  have y0:=(cells_one a.h7).1
  clear a b d e
  go_wp2_with fail
  go_ret
  exact⟨rfl,B3.out⟩
 ·exact hf.elim
end
end Go.Proofs.YtammlljefhakmaaGreatDoor
