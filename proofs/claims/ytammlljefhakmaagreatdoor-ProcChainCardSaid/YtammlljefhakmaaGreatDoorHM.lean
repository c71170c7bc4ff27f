/- Helps of the proof. No condition. -/
import Derived.Test.YtammlljefhakmaaGreatDoorHL
import Derived.Test.YtammlljefhakmaaGreatDoorHE
import Derived.Test.YtammlljefhakmaaGreatDoorHI
import Derived.Test.YtammlljefhakmaaGreatDoorHJ
import Derived.StillTailTactics
import Derived.Deep.RegionHeld3
import Derived.Deep.DeepCutAuto
import Derived.Deep.CutRange
namespace Go.Proofs.YtammlljefhakmaaGreatDoor
open Go.RowKit Go.Maps
set_option maxRecDepth 100000
section
theorem Qo(w:World):(zeroValue 127).run Tryz.prog w= .ok (.pointer none) w:=by kernel_rfl
section
variable (w:World) {ops:Array Oper} {rest:List Oper} {o:Oper} {a:Act} {Q:Exit→Act→World→Prop}
theorem wW(hg:o.guard=none)(m x:Operand)(hop:o.op=Op.lookup 133 m x true)(b:Nat)(P:Pt)(hm:a.eval m= .map (some b))(h:aT w b P)(y:Int)(hx:a.eval x= .int .i64 y)(hy: -9223372036854775808≤y∧y≤9223372036854775807)(c:Option Nat)(hc:P y=c)
  (hK:wpList Tryz.prog ops Q rest (a.put o.dst (.tuple #[Aa c, .bool c.isSome])) w):wpList Tryz.prog ops Q (o::rest) a w:=by
 obtain⟨D,k,hown,_,hr⟩:=h
 refine wpList_lookup_own_ok w hg m x 133 hop 3 127 qA Tryz.underlying133 lQ (Qo _) (.lit (.int .i64 (-1))) [] rfl b k D hm hown (.int .i64 y) (.int .i64 y) hx (gJ y hy) fun v ps hv=>?_
 rw[hr.at_ y,hc]at hv
 rw[hr.Ea y,hc,jP hv]
 exact hK
theorem tK(hg:o.guard=none)(m x:Operand)(hop:o.op=Op.lookup 133 m x false)(b:Nat)(P:Pt)(hm:a.eval m= .map (some b))(h:aT w b P)(y:Int)(hx:a.eval x= .int .i64 y)(hy: -9223372036854775808≤y∧y≤9223372036854775807)(c:Option Nat)(hc:P y=c)
  (hK:wpList Tryz.prog ops Q rest (a.put o.dst (Aa c)) w):wpList Tryz.prog ops Q (o::rest) a w:=by
 obtain⟨D,k,hown,_,hr⟩:=h
 refine wpList_plain hg fun K' hK'=>?_
 obtain⟨v,ps,hrun,hv⟩:=hown.lookup qA Tryz.underlying133 (Qo w) (zd:= .lit (.int .i64 (-1))) (zp:=[]) rfl (gJ y hy)
 rw[hr.at_ y,hc]at hv
 rw[jP hv]at hrun
 unfold Oper.wp
 simp[execOp,hop,hm,hx,hrun,Result.andThen]
 exact hK' _ _ hK
theorem Er(hg:o.guard=none)(m x v:Operand)(hop:o.op=Op.mapUpdate 133 m x v)(b:Nat)(P:Pt)(hm:a.eval m= .map (some b))(h:aT w b P)(y:Int)(hx:a.eval x= .int .i64 y)(hy:1≤y∧y≤8)(c:Nat)(hv:a.eval v= .pointer (some ⟨c,0,none⟩))
  (hK:∀w',aT w' b (gX P y (some c))→w.grownBy w' (some b)→wpList Tryz.prog ops Q rest (a.put o.dst undef) w'):wpList Tryz.prog ops Q (o::rest) a w:=by
 obtain⟨D,k,hown,hk,hr⟩:=h
 refine wpList_mapUpdate_own _ hg m x v 133 hop 3 127 qA Tryz.underlying133 _ b k D hm hown (by unfold maxLen;omega) (.int .i64 y) (.pointer (some ⟨c,0,none⟩)) (.int .i64 y) hx hv (gJ _ (by omega)) (.lit (.int .i64 (UE (some c)))) [] (vo (some c)) fun w' h1 h2=>?_
 have hr':=hr.put y hy (some c) rfl
 exact hK w' ⟨_,1024,xP h1 1024 hr'.frames.size,Nat.le_refl _,hr'⟩ h2
theorem Dc(hg:o.guard=none)(m x:Operand)(hop:o.op=Op.call { callee:=Callee.builtin Builtin.delete,args:=#[m,x],argTypes:=#[133,3] })(b:Nat)(P:Pt)(hm:a.eval m= .map (some b))(h:aT w b P)(y:Int)(hx:a.eval x= .int .i64 y)(hy:1≤y∧y≤8)
  (hK:∀w',aT w' b (gX P y none)→w.grownBy w' (some b)→wpList Tryz.prog ops Q rest (a.put o.dst (.tuple #[])) w'):wpList Tryz.prog ops Q (o::rest) a w:=by
 obtain⟨D,k,hown,hk,hr⟩:=h
 refine wpList_delete_own _ hg m x 133 3 hop 127 qA Tryz.underlying133 _ b k D hm hown (.int .i64 y) (.int .i64 y) hx (gJ _ (by omega)) fun w' h1 h2=>?_
 exact hK w' ⟨_,k,h1,hk,hr.del y⟩ h2.grown
end
def tL:Obj→Bool
 | .map _ _=>true
 |_=>false
def Mov(w:World)(k:Nat):Prop:=∃o,w.heap[k]? =some o∧(tL o=true∨kindOf o=some 278∨kindOf o=some 231∨kindOf o=some 155∨kindOf o=some 139)
def yJ(t:TypeId):Prop:=t≠278∧t≠231∧t≠155∧t≠139
instance(t:TypeId):Decidable (yJ t):=by unfold yJ;infer_instance
theorem AQ{w:World}{k:Nat}{cs:Array Value}{t:TypeId}{z:Nat×Nat}(h:w.heap[k]? =some (.cells cs t z))(ht:yJ t):¬Mov w k:=by
 rintro⟨o,ho,hk⟩
 rw[h]at ho
 rw[←Option.some.inj ho]at hk
 simp only[tL,kindOf,Option.some.injEq,reduceCtorEq,false_or]at hk
 rcases hk with e|e|e|e
 ·exact ht.1 e
 ·exact ht.2.1 e
 ·exact ht.2.2.1 e
 ·exact ht.2.2.2 e
structure ay(w w':World):Prop where
 only:Only w w' (Mov w)
theorem ay.below{w w':World}(h:Below w.heap.size w w'):ay w w':=⟨Only.below h⟩
theorem ay.refl(w:World):ay w w:=⟨Only.refl _ _⟩
theorem ay.trans{a b c:World}(h:ay a b)(k:ay b c):ay a c:=
 ⟨⟨k.only.os.trans h.only.os,k.only.tape.trans h.only.tape,k.only.output.trans h.only.output,Nat.le_trans h.only.size k.only.size,fun i hi hB=>by
  have e:=h.only.block i hi hB
  refine(k.only.block i (Nat.lt_of_lt_of_le hi h.only.size) fun hm=>hB ?_).trans e
  obtain⟨o,ho,hk⟩:=hm
  exact⟨o,e▸ho,hk⟩⟩⟩
theorem ay.size{w w':World}(h:ay w w'):w.heap.size≤w'.heap.size:=h.only.size
theorem ay.box{w w':World}(h:ay w w'){k:Nat}{cs:Array Value}{t:TypeId}{z:Nat×Nat}(hb:w.heap[k]? =some (.cells cs t z))(ht:yJ t):w'.heap[k]? =some (.cells cs t z):=h.only.kept hb (AQ hb ht)
def Df(w:World)(k:Nat):Prop:=∀cs z,w.heap[k]? ≠some (.cells cs 23 z)
theorem wX{w:World}{k:Nat}{o:Obj}(h:w.heap[k]? =some o)(hk:kindOf o≠some 23):Df w k:=fun cs z e=>by
 rw[h]at e
 cases e
 exact hk rfl
theorem uW.only{w w':World}{v:Value}{L:List Ar}{B:Nat→Prop}(h:uW w v L)(ho:Only w w' B)(hB:∀k,B k→Df w k):uW w' v L:=by
 obtain⟨⟨a,c,rfl,hl,hw,h⟩,ty⟩:=h
 have key:∀a' n c',Value.slice a L.length c= .slice (some a') n c'→w'.heap[a'.block]? =w.heap[a'.block]? :=fun a' n c' e=>by
  obtain⟨cs,z,hk⟩:=ty a' n c' e
  exact ho.block _ (lt_of_block hk) fun hb=>hB _ hb _ _ hk
 refine⟨⟨a,c,rfl,hl,hw,h.imp id ?_⟩,fun a' n c' e=>by rw[key a' n c' e];exact ty a' n c' e⟩
 rintro⟨b,o,rfl,hlt,hc⟩
 have k:∀q,w'.cell? ⟨b,q,none⟩=w.cell? ⟨b,q,none⟩:=fun q=>World.cell?_of_block (w:=w) (a:=⟨b,q,none⟩) (key ⟨b,o,none⟩ _ _ rfl)
 exact⟨b,o,rfl,Nat.lt_of_lt_of_le hlt ho.size,fun i hi=>by
  obtain⟨c0,c1,c2⟩:=hc i hi
  exact⟨(k _).trans c0,(k _).trans c1,(k _).trans c2⟩⟩
theorem tN{w:World}{k:Nat}{es:Array MapEntry}{ck:Nat}(h:w.heap[k]? =some (.map es ck)):Df w k:=wX h (by simp[kindOf])
theorem Tv{w:World}{k:Nat}{n:Nd}(h:w.heap[k]? =some (wo n)):Df w k:=wX h (by simp only[wo,kindOf];decide)
theorem Xv{w:World}{k:Nat}{L:List Nat}(h:dW w k L):Df w k:=wX h.box (by simp only[kindOf];decide)
theorem Tw{w:World}{k:Nat}{L:List Int}{t:TypeId}{z:Nat×Nat}(h:w.heap[k]? =some (.cells (ah L) t z))(ht:t≠23:=by decide):Df w k:=wX h fun e=>ht (Option.some.inj e)
structure Pc where
 blk:Nat
 root:Nat
 v:Value
 ar:List Ar
structure lK where
 ss:Nat
 tb:Nat
 sb:Nat
 bb:Nat
 bm:Nat
 mm:Nat
 X:bD
 n:Nat
 lo:Nat
 hi:Nat
 
 fz:Nat→Option (Array Value)
 
 fm:Nat→Option Obj
def aav(w:World)(F:Nat→Option (Array Value))(Pb:Pt):Prop:=∀k cs,F k=some cs→w.heap[k]? =some (.cells cs 155 (0,0))∧∀i p,Pb i=some p→p≠k
theorem aav.only{w w':World}{F:Nat→Option (Array Value)}{Pb Pb':Pt}{B:Nat→Prop}(h:aav w F Pb)(ho:Only w w' B)(hB:∀k cs,w.heap[k]? =some (.cells cs 155 (0,0))→(∀i p,Pb i=some p→p≠k)→¬B k)(hP:∀i p,Pb' i=some p→Pb i=some p∨w.heap.size≤p):aav w' F Pb':=fun k cs hk=>by
 obtain⟨a,b⟩:=h k cs hk
 refine⟨ho.kept a (hB k cs a b),fun i p hp e=>?_⟩
 rcases hP i p hp with h1|h1
 ·exact b i p h1 e
 ·have:=lt_of_block a;omega
structure aaw(w:World)(I:lK):Prop where
 at_:∀k o,I.fm k=some o→w.heap[k]? =some o∧tL o=true
 ne:∀k,(I.fm k).isSome=true→k≠I.X.mb∧k≠I.sb∧k≠I.bm∧k≠I.mm
theorem aaw.only{w w':World}{I:lK}{B:Nat→Prop}(h:aaw w I)(ho:Only w w' B)(hB:∀k o,w.heap[k]? =some o→tL o=true→B k→k=I.X.mb∨k=I.sb∨k=I.bm∨k=I.mm):aaw w' I:=
 ⟨fun k o hk=>⟨ho.kept (h.at_ k o hk).1 fun hb=>by
  have:=h.ne k (by rw[hk];rfl)
  have:=hB k o (h.at_ k o hk).1 (h.at_ k o hk).2 hb
  omega,(h.at_ k o hk).2⟩,h.ne⟩
theorem oh{w:World}{k:Nat}{o:Obj}{cs:Array Value}{t:TypeId}{z:Nat×Nat}(h:w.heap[k]? =some o)(hm:tL o=true)(hc:w.heap[k]? =some (.cells cs t z)):False:=by
 rw[h]at hc;cases hc;cases hm
def Tx(i:Int)(s:Pc):Obj:= .cells #[.int .i64 i, .int .i64 (s.root:Int),s.v] 139 (0,0)
def ssO(I:lK):Obj:= .cells #[.pointer (some ⟨I.X.mp,0,none⟩), .pointer (some ⟨I.X.pb,0,none⟩), .int .i64 0, .pointer (some ⟨I.bb,0,none⟩), .pointer (some ⟨I.tb,0,none⟩), .map (some I.mm)] 135 (0,0)
abbrev jL(G:Int→Option Pc):Pt:=fun i=>(G i).map (·.blk)
structure Big(W0 w:World)(I:lK)(c:Nat)(W:Nat→Option Sp)(Q:Nat→Nat)(V:Nat→Nat→Int)(Pb:Pt)(Lb:List Nd)(G:Int→Option Pc):Prop where
 sys:bM W0 w I.tb I.sb I.X I.n I.lo I.hi c W Q V
 ko:bA w I.bb I.bm Pb Lb
 box:w.heap[I.ss]? =some (ssO I)
 map:aT w I.mm (jL G)
 sp:∀i s,G i=some s→w.heap[s.blk]? =some (Tx i s)∧uW w s.v s.ar∧qQ s.ar
 nbm:W0.heap.size≤I.bm
 nmm:W0.heap.size≤I.mm
 nod:∀i p,Pb i=some p→W0.heap.size≤p
 nsp:∀i s,G i=some s→W0.heap.size≤s.blk
 ne:I.bm≠I.X.mb∧I.bm≠I.sb∧I.mm≠I.X.mb∧I.mm≠I.sb∧I.mm≠I.bm
 fz:aav w I.fz Pb
 fm:aaw w I
section
variable {W0 w:World} {I:lK} {c:Nat} {W:Nat→Option Sp} {Q:Nat→Nat} {V:Nat→Nat→Int} {Pb:Pt} {Lb:List Nd} {G:Int→Option Pc}
theorem bM.Tz{tb sb n lo hi:Nat}{X:bD}(h:bM W0 w tb sb X n lo hi c W Q V)(k:Nat)(hk:mgB X sb k):Df w k∧Mov w k:=by
 obtain⟨L,R,S,O,T,h1,r⟩:=h.ex
 rcases hk with(e|e|e)|e
 ·rw[e];exact⟨Tw h1.own.st.mem.row,_,h1.own.st.mem.row,Or.inr (Or.inl rfl)⟩
 ·obtain⟨es,ck,hm⟩:=h1.own.st.refs.isMap
  rw[e];exact⟨tN hm,_,hm,Or.inl rfl⟩
 ·obtain⟨t,ht,e2⟩:=List.mem_map.1 e
  obtain⟨i,hi,e3⟩:=List.getElem_of_mem ht
  have:=h1.own.st.sets i hi
  rw[List.getD_eq_getElem?_getD,List.getElem?_eq_getElem hi,Option.getD_some,e3,e2]at this
  exact⟨Xv this,_,this.box,Or.inr (Or.inr (Or.inl rfl))⟩
 ·obtain⟨es,ck,hm⟩:=h1.iK.isMap
  rw[e];exact⟨tN hm,_,hm,Or.inl rfl⟩
theorem bM.maps{tb sb n lo hi:Nat}{X:bD}(h:bM W0 w tb sb X n lo hi c W Q V){k:Nat}{o:Obj}(hk:w.heap[k]? =some o)(hm:tL o=true)(hb:mgB X sb k):k=X.mb∨k=sb:=by
 obtain⟨L,R,S,O,T,h1,r⟩:=h.ex
 rcases hb with(e|e|e)|e
 ·rw[e]at hk;exact(oh hk hm h1.own.st.mem.row).elim
 ·exact Or.inl e
 ·obtain⟨t,ht,e2⟩:=List.mem_map.1 e
  obtain⟨i,hi,e3⟩:=List.getElem_of_mem ht
  have:=h1.own.st.sets i hi
  rw[List.getD_eq_getElem?_getD,List.getElem?_eq_getElem hi,Option.getD_some,e3,e2]at this
  exact(oh hk hm this.box).elim
 ·exact Or.inr e
theorem bM.kF{tb sb n lo hi b:Nat}{X:bD}{P:Pt}(h:bM W0 w tb sb X n lo hi c W Q V)(hm:aT w b P)(h1:b≠X.mb)(h2:b≠sb):¬(X.all b∨b=sb∨b=tb):=fun hk=>by
 obtain⟨es,ck,hb⟩:=hm.isMap
 obtain⟨_,o,ho,hx⟩:=h.kind b hk
 rw[hb]at ho
 rw[←Option.some.inj ho]at hx
 simp only[kindOf,true_and,reduceCtorEq,or_false]at hx
 rcases hx with e|e
 ·exact h1 e
 ·exact h2 e
theorem Qp{X:bD}{sb tb k:Nat}(h:mgB X sb k):X.all k∨k=sb∨k=tb:=by
 rcases h with e|e
 ·exact Or.inl (Or.inl e)
 ·exact Or.inr (Or.inl e)
theorem bA.Tz{b m:Nat}(h:bA w b m Pb Lb)(k:Nat)(hk:bB m Pb k):Df w k∧Mov w k:=by
 rcases hk with e|⟨i,hi⟩
 ·obtain⟨es,ck,hm⟩:=h.map.isMap
  rw[e];exact⟨tN hm,_,hm,Or.inl rfl⟩
 ·obtain⟨n,_,hn⟩:=h.node hi
  exact⟨Tv hn,_,hn,Or.inr (Or.inr (Or.inr (Or.inl rfl)))⟩
theorem Big.step{w':World}(h:Big W0 w I c W Q V Pb Lb G)(hb:Below w.heap.size w w'):Big W0 w' I c W Q V Pb Lb G:=
 ⟨h.sys.step hb,h.ko.step hb,below_block hb h.box,h.map.same (hb.block _ h.map.lt),fun i s hi=>by
  obtain⟨a,b,d⟩:=h.sp i s hi
  exact⟨below_block hb a,b.below hb,d⟩,h.nbm,h.nmm,h.nod,h.nsp,h.ne,h.fz.only (B:=fun _=>False) (Only.below hb) (fun _ _ _ _=>id) (fun _ _=>Or.inl),h.fm.only (B:=fun _=>False) (Only.below hb) (fun _ _ _ _=>False.elim)⟩
structure Goes(W0 w w':World)(I:lK)(c:Nat)(W:Nat→Option Sp)(Q:Nat→Nat)(V:Nat→Nat→Int)(Lb:List Nd)(G:Int→Option Pc):Prop where
 ex:∃Pb,Big W0 w' I c W Q V Pb Lb G
 keep:ay w w'
theorem Big.Xw{w':World}{c':Nat}{W':Nat→Option Sp}{Q':Nat→Nat}{V':Nat→Nat→Int}(h:Big W0 w I c W Q V Pb Lb G){kw:Nat→Nat→Int}(k1:bM W0 w' I.tb I.sb { I.X with kw:=kw } I.n I.lo I.hi c' W' Q' V')(k2:Only w w' (mgB I.X I.sb)):Big W0 w' { I with X:={ I.X with kw:=kw } } c' W' Q' V' Pb Lb G∧ay w w':=by
 have Oj:=h.sys.kF h.ko.map h.ne.1 h.ne.2.1
 have hmm:=h.sys.kF h.map h.ne.2.2.1 h.ne.2.2.2.1
 refine⟨⟨k1,h.ko.kept (k2.block _ (lt_of_block h.ko.box) (h.sys.other h.ko.box (by decide))) (fun j hj=>k2.block _ (h.ko.lt hj) fun hb=>?_),k2.kept h.box (h.sys.other h.box (by decide)),h.map.same (k2.block _ h.map.lt fun hb=>hmm (Qp hb)),fun i s hi=>?_,h.nbm,h.nmm,h.nod,h.nsp,h.ne,h.fz.only k2 (fun _ _ hb _=>h.sys.other hb (by decide)) (fun _ _=>Or.inl),⟨(h.fm.only k2 fun j o hj hm hb=>(h.sys.maps hj hm hb).imp id Or.inl).at_,h.fm.ne⟩⟩,⟨k2.mono fun j hj=>(h.sys.Tz j hj).2⟩⟩
 ·rcases hj with rfl|⟨i,hi⟩
  ·exact Oj (Qp hb)
  ·obtain⟨n,_,hn⟩:=h.ko.node hi
   exact h.sys.other hn (by decide) hb
 ·obtain⟨a,b,d⟩:=h.sp i s hi
  exact⟨k2.kept a (h.sys.other a (by decide)),b.only k2 fun j hj=>(h.sys.Tz j hj).1,d⟩
theorem Big.Gj{w':World}{c':Nat}{W':Nat→Option Sp}{Q':Nat→Nat}{V':Nat→Nat→Int}(h:Big W0 w I c W Q V Pb Lb G)(k:mV W0 w w' I.tb I.sb I.X I.n I.lo I.hi c' W' Q' V'):Big W0 w' I c' W' Q' V' Pb Lb G∧ay w w':=h.Xw (kw:=I.X.kw) k.st k.only
theorem Big.Qq{w':World}{dO:List Nd}(h:Big W0 w I c W Q V Pb Lb G)(k:Turned w w' I.bb I.bm Pb dO):Goes W0 w w' I c W Q V dO G:=by
 obtain⟨⟨P',t1,t2⟩,t3⟩:=k
 have Oj:=h.sys.kF h.ko.map h.ne.1 h.ne.2.1
 have hnew:∀j,bB I.bm Pb j→W0.heap.size≤j:=fun j hj=>by
  rcases hj with rfl|⟨i,hi⟩
  ·exact h.nbm
  ·exact h.nod i j hi
 have hB:Below W0.heap.size W0 w':=t3.old h.sys.below h.sys.below.size hnew
 refine⟨⟨P',h.sys.kept t3 (fun j hj hb=>?_) hB,t1,t3.kept h.box fun hb=>?_,h.map.same (t3.block _ h.map.lt fun hb=>?_),fun i s hi=>?_,h.nbm,h.nmm,fun i p hp=>?_,h.nsp,h.ne,h.fz.only t3 (fun k cs hk hn hb=>?_) t2,h.fm.only t3 fun j o hj hm hb=>hb.elim (fun e=>Or.inr (Or.inr (Or.inl e))) fun⟨i,hi⟩=>by obtain⟨n,_,hn⟩:=h.ko.node hi;exact(oh hj hm hn).elim⟩,⟨t3.mono fun j hj=>(h.ko.Tz j hj).2⟩⟩
 ·rcases hb with rfl|⟨i,hi⟩
  ·exact Oj hj
  ·obtain⟨n,_,hn⟩:=h.ko.node hi
   obtain⟨_,o,ho,hx⟩:=h.sys.kind j hj
   rw[hn]at ho
   rw[←Option.some.inj ho]at hx
   simp only[wo,kindOf,Option.some.injEq,reduceCtorEq,false_and,false_or]at hx
   revert hx;decide
 ·obtain⟨_,o,ho,hx⟩:=h.ko.Tz _ hb
  rw[h.box]at ho
  exact AQ h.box (by decide) ⟨_,h.box,by rw[Option.some.inj ho];exact hx⟩
 ·rcases hb with e|⟨i,hi⟩
  ·exact h.ne.2.2.2.2 e
  ·obtain⟨n,_,hn⟩:=h.ko.node hi
   obtain⟨es,ck,hm⟩:=h.map.isMap
   rw[hm]at hn;cases hn
 ·obtain⟨a,b,d⟩:=h.sp i s hi
  refine⟨t3.kept a fun hb=>?_,b.only t3 fun j hj=>(h.ko.Tz j hj).1,d⟩
  rcases hb with e|⟨j,hj⟩
  ·obtain⟨es,ck,hm⟩:=h.ko.map.isMap
   rw[e,hm]at a;cases a
  ·obtain⟨n,_,hn⟩:=h.ko.node hj
   rw[hn]at a
   simp only[wo,Tx,Option.some.injEq,Obj.cells.injEq]at a
   exact absurd a.2.1 (by decide)
 ·rcases t2 i p hp with e|e
  ·exact h.nod i p e
  ·exact Nat.le_trans h.sys.below.size e
 ·rcases hb with rfl|⟨i,hi⟩
  ·obtain⟨es,ck,hm⟩:=h.ko.map.isMap
   rw[hm]at hk;cases hk
  ·exact hn i k hi rfl
theorem Big.own{w':World}{G':Int→Option Pc}{B:Nat→Prop}(h:Big W0 w I c W Q V Pb Lb G)(ho:Only w w' B)(hB:∀k,B k→k=I.mm∨∃i s,G i=some s∧s.blk=k)(hm:aT w' I.mm (jL G'))(hs:∀i s,G' i=some s→w'.heap[s.blk]? =some (Tx i s)∧uW w' s.v s.ar∧qQ s.ar∧W0.heap.size≤s.blk):Goes W0 w w' I c W Q V Lb G':=by
 have hmm:=h.sys.kF h.map h.ne.2.2.1 h.ne.2.2.2.1
 have hsp:∀i s,G i=some s→¬(I.X.all s.blk∨s.blk=I.sb∨s.blk=I.tb):=fun i s hi hk=>by
  obtain⟨_,o,ho,hx⟩:=h.sys.kind _ hk
  rw[(h.sp i s hi).1]at ho
  rw[←Option.some.inj ho]at hx
  simp only[Tx,kindOf,Option.some.injEq,reduceCtorEq,false_and,false_or]at hx
  revert hx;decide
 have hnew:∀k,B k→W0.heap.size≤k:=fun k hk=>by
  rcases hB k hk with rfl|⟨i,s,hi,rfl⟩
  ·exact h.nmm
  ·exact h.nsp i s hi
 have hmov:∀k,B k→Mov w k:=fun k hk=>by
  rcases hB k hk with rfl|⟨i,s,hi,rfl⟩
  ·obtain⟨es,ck,hm⟩:=h.map.isMap
   exact⟨_,hm,Or.inl rfl⟩
  ·exact⟨_,(h.sp i s hi).1,Or.inr (Or.inr (Or.inr (Or.inr rfl)))⟩
 refine⟨⟨Pb,h.sys.kept ho (fun k hk hb=>?_) (ho.old h.sys.below h.sys.below.size hnew),h.ko.kept (ho.block _ (lt_of_block h.ko.box) fun hb=>AQ h.ko.box (by decide) (hmov _ hb)) (fun k hk=>ho.block _ (h.ko.lt hk) fun hb=>?_),ho.kept h.box fun hb=>AQ h.box (by decide) (hmov _ hb),hm,fun i s hi=>⟨(hs i s hi).1,(hs i s hi).2.1,(hs i s hi).2.2.1⟩,h.nbm,h.nmm,h.nod,fun i s hi=>(hs i s hi).2.2.2,h.ne,h.fz.only ho (fun k cs hk _ hb=>?_) (fun _ _=>Or.inl),h.fm.only ho fun j o hj hm hb=>(hB j hb).elim (fun e=>Or.inr (Or.inr (Or.inr e))) fun⟨i,s,hi,e⟩=>by have a:=(h.sp i s hi).1;rw[e]at a;exact(oh hj hm a).elim⟩,⟨ho.mono hmov⟩⟩
 ·rcases hB k hb with rfl|⟨i,s,hi,rfl⟩
  ·exact hmm hk
  ·exact hsp i s hi hk
 ·rcases hB k hb with e|⟨i,s,hi,e⟩
  ·rcases hk with e2|⟨j,hj⟩
   ·exact h.ne.2.2.2.2 (e.symm.trans e2)
   ·obtain⟨n,_,hn⟩:=h.ko.node hj
    obtain⟨es,ck,hm⟩:=h.map.isMap
    rw[e,hm]at hn;cases hn
  ·have a:=(h.sp i s hi).1
   rw[e]at a
   rcases hk with e2|⟨j,hj⟩
   ·obtain⟨es,ck,hm⟩:=h.ko.map.isMap
    rw[e2,hm]at a;cases a
   ·obtain⟨n,_,hn⟩:=h.ko.node hj
    rw[hn]at a
    simp only[wo,Tx,Option.some.injEq,Obj.cells.injEq]at a
    exact absurd a.2.1 (by decide)
 ·rcases hB k hb with e|⟨i,s,hi,e⟩
  ·obtain⟨es,ck,hm⟩:=h.map.isMap
   rw[e,hm]at hk;cases hk
  ·have a:=(h.sp i s hi).1
   rw[e,hk]at a
   simp only[Tx,Option.some.injEq,Obj.cells.injEq]at a
   exact absurd a.2.1 (by decide)
theorem Big.inj(h:Big W0 w I c W Q V Pb Lb G){i j:Int}{s t:Pc}(hi:G i=some s)(hj:G j=some t)(e:s.blk=t.blk):i=j:=by
 have a:=(h.sp i s hi).1
 have b:=(h.sp j t hj).1
 rw[e,b]at a
 simp only[Tx,Option.some.injEq,Obj.cells.injEq,and_true]at a
 have:=congrArg (fun c:Array Value=>c[0]?) a
 simp at this
 omega
theorem Big.cells(h:Big W0 w I c W Q V Pb Lb G):w.cell? ⟨I.ss,0,none⟩=some (.pointer (some ⟨I.X.mp,0,none⟩))∧w.cell? ⟨I.ss,1,none⟩=some (.pointer (some ⟨I.X.pb,0,none⟩))∧w.cell? ⟨I.ss,2,none⟩=some (.int .i64 0)∧w.cell? ⟨I.ss,3,none⟩=some (.pointer (some ⟨I.bb,0,none⟩))∧w.cell? ⟨I.ss,4,none⟩=some (.pointer (some ⟨I.tb,0,none⟩))∧w.cell? ⟨I.ss,5,none⟩=some (.map (some I.mm)):=by
 have:=fun i=>cell_of_row w I.ss i _ _ _ h.box
 exact⟨this 0,this 1,this 2,this 3,this 4,this 5⟩
theorem Big.iK(h:Big W0 w I c W Q V Pb Lb G){i:Int}{s:Pc}(hi:G i=some s):w.cell? ⟨s.blk,0,none⟩=some (.int .i64 i)∧w.cell? ⟨s.blk,1,none⟩=some (.int .i64 (s.root:Int))∧w.cell? ⟨s.blk,2,none⟩=some s.v:=by
 have:=fun j=>cell_of_row w s.blk j _ _ _ (h.sp i s hi).1
 exact⟨this 0,this 1,this 2⟩
def Ol(t:TypeId):Prop:=(yJ t∧t≠115∧t≠110∧t≠148∧t≠261)∧t≠190∧t≠135∧t≠23
instance(t:TypeId):Decidable (Ol t):=by unfold Ol;infer_instance
def wY(w:World)(I:lK)(k:Nat):Prop:=∃o,w.heap[k]? =some o∧(∀t,kindOf o=some t→Ol t)∧(tL o=true→(I.fm k).isSome=true)
theorem wY.cells{k:Nat}{cs:Array Value}{t:TypeId}{z:Nat×Nat}(h:w.heap[k]? =some (.cells cs t z))(ht:Ol t):wY w I k:=⟨_,h,fun _ e=>Option.some.inj e▸ht,fun e=>by cases e⟩
theorem wY.not{k:Nat}(h:wY w I k){cs:Array Value}{t:TypeId}{z:Nat×Nat}(hc:w.heap[k]? =some (.cells cs t z))(ht:¬Ol t):False:=by
 obtain⟨o,ho,h1,_⟩:=h
 rw[ho]at hc
 cases hc
 exact ht (h1 t rfl)
theorem wY.Xx{k:Nat}(h:wY w I k){P:Pt}(hm:aT w k P)(hf:I.fm k=none):False:=by
 obtain⟨o,ho,_,h2⟩:=h
 obtain⟨es,ck,hk⟩:=hm.isMap
 rw[ho]at hk
 cases hk
 have:=h2 rfl
 rw[hf]at this
 cases this
theorem Big.fm0(h:Big W0 w I c W Q V Pb Lb G){k:Nat}(hk:k=I.X.mb∨k=I.sb∨k=I.bm∨k=I.mm):I.fm k=none:=by
 cases e:I.fm k with
 |none=>rfl
 |some o=>have:=h.fm.ne k (by rw[e];rfl);omega
theorem Big.far{w':World}{B:Nat→Prop}(h:Big W0 w I c W Q V Pb Lb G)(ho:Only w w' B)(hn:∀k,B k→W0.heap.size≤k)(hB:∀k,B k→wY w I k){fm':Nat→Option Obj}(hf:∀k o,fm' k=some o→w'.heap[k]? =some o∧tL o=true∧(I.fm k).isSome=true):Big W0 w' { I with fm:=fm' } c W Q V Pb Lb G:=by
 have far:∀{k:Nat} {cs:Array Value} {t:TypeId} {z:Nat×Nat},w.heap[k]? =some (.cells cs t z)→¬Ol t→¬B k:=fun hk ht hb=>(hB _ hb).not hk ht
 refine⟨h.sys.kept ho (fun k hk hb=>?_) (ho.old h.sys.below h.sys.below.size hn),h.ko.kept (ho.block _ (lt_of_block h.ko.box) (far h.ko.box (by decide))) (fun k hk=>ho.block _ (h.ko.lt hk) fun hb=>?_),ho.kept h.box (far h.box (by decide)),h.map.same (ho.block _ h.map.lt fun hb=>(hB _ hb).Xx h.map (h.fm0 (by simp))),fun i s hi=>?_,h.nbm,h.nmm,h.nod,h.nsp,h.ne,h.fz.only ho (fun k cs hk _=>far hk (by decide)) (fun _ _=>Or.inl),⟨fun k o hk=>⟨(hf k o hk).1,(hf k o hk).2.1⟩,fun k hk=>?_⟩⟩
 ·obtain⟨_,o,hoo,hx⟩:=h.sys.kind k hk
  obtain⟨o',ho',h1,h2⟩:=hB k hb
  rw[hoo]at ho'
  cases ho'
  rcases hx with⟨e,e2⟩|e|e|e|e|e|e
  ·have hm:tL o=true:=by
    obtain⟨L,R,S,O,T,k1,_⟩:=h.sys.ex
    rcases e2 with e2|e2
    ·obtain⟨es,ck,hm⟩:=k1.own.st.refs.isMap
     rw[e2,hm]at hoo;cases hoo;rfl
    ·obtain⟨es,ck,hm⟩:=k1.iK.isMap
     rw[e2,hm]at hoo;cases hoo;rfl
   have:=h2 hm
   rw[h.fm0 (by rcases e2 with e2|e2<;>simp[e2])]at this
   cases this
  all_goals exact absurd (h1 _ e) (by decide)
 ·rcases hk with rfl|⟨i,hi⟩
  ·exact(hB _ hb).Xx h.ko.map (h.fm0 (by simp))
  ·obtain⟨n,_,hn⟩:=h.ko.node hi
   exact(hB _ hb).not hn (by decide)
 ·obtain⟨a,b,d⟩:=h.sp i s hi
  exact⟨ho.kept a (far a (by decide)),b.only ho fun k hk cs z e=>(hB k hk).not e (by decide),d⟩
 ·obtain⟨o,e⟩:=Option.isSome_iff_exists.1 hk
  exact h.fm.ne k (hf k o e).2.2
theorem Big.ahE{w':World}{B:Nat→Prop}(h:Big W0 w I c W Q V Pb Lb G)(ho:Only w w' B)(hn:∀k,B k→W0.heap.size≤k)(hB:∀k,B k→wY w I k∧I.fm k=none):Big W0 w' I c W Q V Pb Lb G:=
 h.far (fm':=I.fm) ho hn (fun k hk=>(hB k hk).1) fun k o hk=>⟨ho.kept (h.fm.at_ k o hk).1 fun hb=>(by rw[(hB k hb).2]at hk;cases hk),(h.fm.at_ k o hk).2,by rw[hk];rfl⟩
theorem Big.aay(h:Big W0 w I c W Q V Pb Lb G){k:Nat}{cs:Array Value}{t:TypeId}{z:Nat×Nat}(hk:w.heap[k]? =some (.cells cs t z)):I.fm k=none:=by
 cases e:I.fm k with
 |none=>rfl
 |some o=>exact(oh (h.fm.at_ k o e).1 (h.fm.at_ k o e).2 hk).elim
end
end
section
theorem LB(b m:Nat)(w:World)(hc:w.cell? ⟨b,5,none⟩=some (.map (some m))):Calls Tryz.prog 152 #[.pointer (some ⟨b,0,none⟩)] w fun e w'=>e= .returned (.bool true)∧w=w':=by
 have hm:=run_neq_map_nil (P:=Tryz.prog) w 133 3 127 (some m) Tryz.underlying133
 go_enter Tryz.func152,Tryz.ntmps152
 go_wp2
 go_ret
 exact⟨rfl,rfl⟩
def yK(there:Bool)(ids:List Int):Int:=if there=true then(if ids.all oz=true then 0 else 2)else 1
set_option maxHeartbeats 1000000 in
theorem LG(p:Option Addr)(there:Bool)(ids:List Int)(g k:Nat)(w:World)(hk:k=ids.length)(hp:Calls Tryz.prog 152 #[.pointer p] w fun e w'=>e= .returned (.bool there)∧w=w')(hl:k≤2)(hc:∀i,i<k→w.cell? ⟨g,i,none⟩=some (.int .i64 (ids.getD i 0))):
  Calls Tryz.prog 91 #[.pointer p, .slice (some ⟨g,0,none⟩) k k] w fun e w'=>e= .returned (.int .i64 (yK there ids))∧w=w':=by
 have HP:=Lib.hid hp
 have HC:=Lib.hid hc
 have HK:=Lib.hid hk
 clear hp hc hk
 go_enter Tryz.func91,Tryz.ntmps91
 go_wp2_with fail
 refine HP.out.mono ?_
 rintro e w1 ⟨rfl,rfl⟩
 cases there with
 |false=>
  go_wp2
  go_ret
  exact⟨rfl,rfl⟩
 | true=>
  go_wp2_with fail
  go_loopw [12] (fun i wr=>∃j:Nat,i= .int .i64 (j:Int)∧j≤k∧wr=w∧(ids.take j).all oz=true) (fun i _=>(k-(intOf i).toNat))
  case atStart=>exact⟨0,rfl,Nat.zero_le _,rfl,by simp⟩
  case round=>
   obtain⟨j,rfl,hj,rfl,hall⟩:=hrel
   have ALL:=Lib.hid hall
   clear hall
   by_cases hlt:j<k
   ·have c0:=HC.out j hlt
    by_cases h1:ids.getD j 0<1
    ·have NB:=Lib.hid (Bd (ids:=ids) (j:=j) (by have:=HK.out;omega) (decide_eq_false (by omega)))
     generalize ids.getD j 0=x at*
     go_wp2
     go_ret
     exact⟨by unfold yK;rw[if_pos rfl,NB.out];rfl,rfl⟩
    ·by_cases h2:8<ids.getD j 0
     ·have NB:=Lib.hid (Bd (ids:=ids) (j:=j) (by have:=HK.out;omega) (decide_eq_false (by omega)))
      generalize ids.getD j 0=x at*
      go_wp2
      go_ret
      exact⟨by unfold yK;rw[if_pos rfl,NB.out];rfl,rfl⟩
     ·have A2:=Lib.hid (EI (by have:=HK.out;omega) ALL.out (decide_eq_true (by omega)))
      generalize ids.getD j 0=x at*
      go_wp2
      go_roundw
      case rel=>exact⟨j+1,by go_num,by omega,by trivial,A2.out⟩
      case measure=>simp[intOf];omega
   ·obtain rfl:j=k:=by omega
    have e:ids.all oz=true:=by have:=ALL.out;rwa [HK.out,List.take_length]at this
    have E:=Lib.hid e
    clear hlt e
    go_wp2
    go_ret
    exact⟨by unfold yK;rw[if_pos rfl,E.out];rfl,rfl⟩
theorem cell_one_new(w:World)(x:Int)(i:Nat)(hi:i<1):(w.alloc (.cells #[.int .i64 x] 3)).cell? ⟨w.heap.size,i,none⟩=some (.int .i64 ([x].getD i 0)):=by
 obtain rfl:i=0:=by omega
 rw[cell_of_row _ _ _ _ _ _ (heap_alloc_new w _)];rfl
theorem cell_two_new(w:World)(x y:Int)(i:Nat)(hi:i<2):(w.alloc (.cells #[.int .i64 x, .int .i64 y] 3)).cell? ⟨w.heap.size,i,none⟩=some (.int .i64 ([x,y].getD i 0)):=by
 rcases(show i=0∨i=1 by omega)with rfl|rfl
 all_goals rw[cell_of_row _ _ _ _ _ _ (heap_alloc_new w _)];rfl
theorem tO(p:Option Addr)(there:Bool)(i:Int)(w:World)(hp:∀W,Below w.heap.size w W→Calls Tryz.prog 152 #[.pointer p] W fun e w'=>e= .returned (.bool there)∧W=w'){er:Int}(he:yK there [i]=er):
  Calls Tryz.prog 91 #[.pointer p, .slice (some ⟨w.heap.size,0,none⟩) 1 1] (w.alloc (.cells #[.int .i64 i] 3)) fun e w'=>e= .returned (.int .i64 er)∧Below w.heap.size w w':=by
 have hb:Below w.heap.size w (w.alloc (.cells #[.int .i64 i] 3)):=(Below.refl _ _).alloc (Nat.le_refl _) _
 subst he
 exact(LG p there [i] w.heap.size 1 _ rfl (hp _ hb) (by decide) (cell_one_new w i)).mono fun e w' ⟨h1,h2⟩=>⟨h1,h2▸hb⟩
theorem Xy(p:Option Addr)(there:Bool)(i j:Int)(w:World)(hp:∀W,Below w.heap.size w W→Calls Tryz.prog 152 #[.pointer p] W fun e w'=>e= .returned (.bool there)∧W=w'){er:Int}(he:yK there [i,j]=er):
  Calls Tryz.prog 91 #[.pointer p, .slice (some ⟨w.heap.size,0,none⟩) 2 2] (w.alloc (.cells #[.int .i64 i, .int .i64 j] 3)) fun e w'=>e= .returned (.int .i64 er)∧Below w.heap.size w w':=by
 have hb:Below w.heap.size w (w.alloc (.cells #[.int .i64 i, .int .i64 j] 3)):=(Below.refl _ _).alloc (Nat.le_refl _) _
 subst he
 exact(LG p there [i,j] w.heap.size 2 _ rfl (hp _ hb) (by decide) (cell_two_new w i j)).mono fun e w' ⟨h1,h2⟩=>⟨h1,h2▸hb⟩
section
variable {W0 w:World} {I:lK} {c:Nat} {W:Nat→Option Sp} {Q:Nat→Nat} {V:Nat→Nat→Int} {Pb:Pt} {Lb:List Nd} {G:Int→Option Pc}
theorem Big.there(h:Big W0 w I c W Q V Pb Lb G):∀W',Below w.heap.size w W'→Calls Tryz.prog 152 #[.pointer (some ⟨I.ss,0,none⟩)] W' fun e w'=>e= .returned (.bool true)∧W'=w':=
 fun W' hb=>LB I.ss I.mm W' (h.step hb).cells.2.2.2.2.2
def dP(G:Int→Option Pc)(i:Int):Int:=if oz i=true then(match G i with
 |none=>4
 |some _=>0)else 2
theorem Xz(p:Option Addr)(there:Bool)(i:Int)(w:World)(hp:∀W,Below w.heap.size w W→Calls Tryz.prog 152 #[.pointer p] W fun e w'=>e= .returned (.bool there)∧W=w'){er:Int}(he:yK there [i]=er)(hne:(er !=0)=true):
  Calls Tryz.prog 74 #[.pointer p, .int .i64 i] w fun e w'=>e= .returned (.tuple #[.pointer none, .int .i64 er])∧Below w.heap.size w w':=by
 have HX:=Lib.hid (tO p there i w hp he)
 clear hp he
 go_enter Tryz.func74,Tryz.ntmps74
 go_wp2_with fail
 refine HX.out.mono ?_
 rintro e w1 ⟨rfl,hb⟩
 have B:=Lib.hid hb
 clear hb
 go_wp2
 go_ret2
 exact⟨rfl,B.out⟩
theorem Dg{i:Int}(hi:oz i=true):yK true [i]=0:=by simp[yK,hi]
theorem LH{i:Int}(hi:oz i=false):yK true [i]=2:=by simp[yK,hi]
theorem adz(h:Big W0 w I c W Q V Pb Lb G)(i:Int){p:Option Nat}(hp:(if dP G i=0 then(G i).map (·.blk)else none)=p){er:Int}(he:dP G i=er):
  Calls Tryz.prog 74 #[.pointer (some ⟨I.ss,0,none⟩), .int .i64 i] w fun e w'=>e= .returned (.tuple #[Aa p, .int .i64 er])∧Below w.heap.size w w':=by
 subst hp he
 cases hi:oz i with
 |false=>
  have e1:dP G i=2:=by unfold dP;rw[hi];rfl
  rw[e1]
  exact Xz _ true i w h.there (LH hi) rfl
 | true=>
  have HX:=Lib.hid (tO (some ⟨I.ss,0,none⟩) true i w h.there (Dg hi))
  have hib:1≤i∧i≤8:=by unfold oz at hi;simpa using hi
  have H:=Lib.hid h
  have e1:dP G i=match G i with
   |none=>4
   |some _=>0:=by unfold dP;rw[hi];rfl
  cases hG:G i with
  |none=>
   rw[hG]at e1
   simp only at e1
   rw[e1]
   have HG:=Lib.hid (show jL G i=none by simp[hG])
   clear h hi hG e1
   go_enter Tryz.func74,Tryz.ntmps74
   go_wp2_with fail
   refine HX.out.mono ?_
   rintro e w1 ⟨rfl,hb⟩
   have B:=Lib.hid hb
   have H1:=Lib.hid (H.out.step hb)
   have c5:=H1.out.cells.2.2.2.2.2
   clear hb
   go_wp2_with(refine wW _ rfl (.tmp 20) (.tmp 21) rfl I.mm (jL G) rfl H1.out.map i rfl (by omega) none HG.out ?_)
   go_ret2
   exact⟨rfl,B.out⟩
  |some s=>
   rw[hG]at e1
   simp only at e1
   rw[e1,if_pos rfl]
   have HG:=Lib.hid (show jL G i=some s.blk by simp[hG])
   clear h hi hG e1
   go_enter Tryz.func74,Tryz.ntmps74
   go_wp2_with fail
   refine HX.out.mono ?_
   rintro e w1 ⟨rfl,hb⟩
   have B:=Lib.hid hb
   have H1:=Lib.hid (H.out.step hb)
   have c5:=H1.out.cells.2.2.2.2.2
   clear hb
   go_wp2_with(refine wW _ rfl (.tmp 20) (.tmp 21) rfl I.mm (jL G) rfl H1.out.map i rfl (by omega) (some s.blk) HG.out ?_)
   go_ret2
   exact⟨rfl,B.out⟩
end
def jw(w:World)(v:Value)(L:List Nat):Prop:=∃a c,v= .slice a L.length c∧(L=[]∨∃b cs,a=some ⟨b,0,none⟩∧w.heap[b]? =some (.cells cs 3 (0,0))∧∀i,i<L.length→cs[i]? =some (.int .i64 ((L.getD i 0:Nat):Int)))
theorem jw.keep{w w':World}{v:Value}{L:List Nat}(h:jw w v L)(k:ay w w'):jw w' v L:=by
 obtain⟨a,c,e,h⟩:=h
 refine⟨a,c,e,h.imp id ?_⟩
 rintro⟨b,cs,e1,e2,e3⟩
 exact⟨b,cs,e1,k.box e2 (by decide),e3⟩
theorem jw.lJ{w:World}{base:Nat}{v:Value}{L:List Nat}(h:w.ownsRow base 3 1 v L.length (zG L)):jw w v L:=by
 have h':=h
 rcases h.2 with⟨rfl,h0⟩|⟨g,cap,cur,rfl,hb,hgg,_⟩
 ·exact⟨none,0,by rw[h0],Or.inl (List.eq_nil_of_length_eq_zero h0)⟩
 ·refine⟨_,_,rfl,Or.inr ⟨g,cur,rfl,hgg,fun i hi=>?_⟩⟩
  have:=h'.cells (g:=g) rfl i (.int .i64 ((L.getD i 0:Nat):Int)) (by simp[zG,List.getD_eq_getElem?_getD,hi])
  rwa [Addr.add_mid,cell_of_row _ _ _ _ _ _ hgg,Nat.zero_add]at this
end
section
theorem LJ(m:Nat):∀(n i:Nat),i<n→(span m n).getD i 0=m+i:=by
 intro n i hi
 simp[span,hi]
def LM(m n k:Nat):Array Value:=nZ n fun i=>if i<k then m+i else 0
theorem XA(m n k:Nat)(hk:k<n):(LM m n k).setIfInBounds k (.int .i64 ((m+k:Nat):Int))=LM m n (k+1):=by
 unfold LM
 rw[Tm n _ k (m+k) hk]
 congr 1
 funext i
 unfold upd
 by_cases e:i=k
 ·subst e;rw[if_pos rfl,if_pos (by omega)]
 ·rw[if_neg e]
  by_cases h:i<k
  ·show(if i<k then m+i else 0)= _
   rw[if_pos h,if_pos (by omega)]
  ·show(if i<k then m+i else 0)= _
   rw[if_neg h,if_neg (by omega)]
set_option maxHeartbeats 1000000 in
theorem XB(m n:Nat)(hm:m≤100000)(hn:n≤100000)(w:World):Calls Tryz.prog 82 #[.int .i64 (m:Int), .int .i64 (n:Int)] w fun e w'=>∃v,e= .returned v∧jw w' v (span m n)∧Below w.heap.size w w':=by
 have hmk:=Od n (by omega) w
 have A0:Hid ((w.alloc (.cells (nZ n R0) 3)).heap[w.heap.size]? =some (.cells (LM m n 0) 3 (0,0))):=Lib.hid (by
  rw[heap_alloc_new];unfold LM;simp only[Nat.not_lt_zero,if_false];try rfl)
 have B0:Hid (Below w.heap.size w (w.alloc (.cells (nZ n R0) 3))):=Lib.hid ((Below.refl _ _).alloc (Nat.le_refl _) _)
 go_enter Tryz.func82,Tryz.ntmps82
 go_wp2_with fail
 generalize w.alloc (.cells (nZ n R0) 3)=w1 at A0 B0 ⊢
 go_loopw [11] (fun i wr=>∃j:Nat,i= .int .i64 (j:Int)∧j≤n∧wr.heap[w.heap.size]? =some (.cells (LM m n j) 3 (0,0))∧Below w.heap.size w wr) (fun i _=>(n-(intOf i).toNat))
 case atStart=>exact⟨0,rfl,Nat.zero_le _,A0.out,B0.out⟩
 case round=>
  obtain⟨j,rfl,hj,hA,hB⟩:=hrel
  have A:=Lib.hid hA
  have B:=Lib.hid hB
  by_cases hlt:j<n
  ·have c0:wr.cell? ⟨w.heap.size,j,none⟩=some (.int .i64 0):=by
    rw[cell_of_row _ _ _ _ _ _ hA,LM,ql _ _ _ hlt,if_neg (by omega)];rfl
   have f0:=frozen_of_row wr w.heap.size j _ _ hA
   have S:=Lib.hid (heap_setCell_same wr w.heap.size j _ _ (.int .i64 ((m+j:Nat):Int)) hA)
   have B1:=Lib.hid (hB.setCell (p:=⟨w.heap.size,j,none⟩) (Nat.le_refl _) (.int .i64 ((m+j:Nat):Int)))
   rw[XA m n j hlt]at S
   have e1:(m:Int)+(j:Int)=((m+j:Nat):Int):=by omega
   have g0: -9223372036854775808≤(m:Int)+(j:Int):=by omega
   have g1:(m:Int)+(j:Int)≤9223372036854775807:=by omega
   rw[←e1]at S B1
   clear hA hB e1
   go_wp2
   go_roundw
   case rel=>exact⟨j+1,by go_num,by omega,S.out,B1.out⟩
   case measure=>simp[intOf];omega
  ·obtain rfl:j=n:=by omega
   clear hA hB
   go_wp2
   go_ret
   refine⟨.slice (some ⟨w.heap.size,0,none⟩) j j,rfl,⟨some ⟨w.heap.size,0,none⟩,j,by rw[show(span m j).length=j by simp[span]],Or.inr ⟨_,_,rfl,A.out,fun i hi=>?_⟩⟩,B.out⟩
   have hi:i<j:=by simpa[span]using hi
   rw[LM,ql _ _ _ hi,if_pos hi,LJ m j i hi]
theorem eF{w w':World}(h:Below w.drew.heap.size w.drew w'):Below w.heap.size w w':=⟨h.os,h.tape,h.output,h.size,h.block⟩
theorem vV{w w':World}{o:Obj}(h:Below (w.alloc o).drew.heap.size (w.alloc o).drew w'):Below w.heap.size w w':=
 ((Below.refl w.heap.size w).alloc (Nat.le_refl _) o).trans ((eF h).mono (by simp))
set_option maxHeartbeats 2000000 in
theorem om(ss blk tb k:Nat)(root:Int)(caps:Array Value)(hent:∀(args:Array Value) (W:World),(callFunc k args).run Tryz.prog W= .ok (.enter k args) W)(v:Value)(L:List Nat)(Inv:Nat→World→Prop)(Fin:Int→World→Prop)(w:World)
  (hcell:∀j V,Inv j V→V.cell? ⟨ss,4,none⟩=some (.pointer (some ⟨tb,0,none⟩))∧V.cell? ⟨blk,1,none⟩=some (.int .i64 root)∧jw V v L)
  (hstep:∀j V V',Inv j V→Below V.heap.size V V'→Inv j V')
  (hin:∀j V,j<L.length→Inv j V→∃(p x c:Bool) (g:Int) (b:Bool),(∀V',Below V.heap.size V V'→Calls Tryz.prog 136 #[.pointer (some ⟨tb,0,none⟩), .int .i64 root, .int .i64 ((L.getD j 0:Nat):Int)] V' fun e w'=>e= .returned (.tuple #[ent p x c g, .bool b])∧Below V'.heap.size V' w')∧∀V',Below V.heap.size V V'→Calls Tryz.prog k (#[.int .i64 ((L.getD j 0:Nat):Int),ent p x c g]++caps) V' fun e w'=>∃er,e= .returned (.int .i64 er)∧(er=0∧Inv (j+1) w'∨er≠0∧Fin er w'))
  (h0:Inv 0 w)(hlen:L.length≤100000):
  Calls Tryz.prog 95 #[.pointer (some ⟨ss,0,none⟩), .pointer (some ⟨blk,0,none⟩),v, .func (.func k) #[] caps] w fun e w'=>∃er,e= .returned (.int .i64 er)∧(er=0∧Inv L.length w'∨er≠0∧Fin er w'):=by
 obtain⟨a,cp,rfl,_⟩:=(hcell 0 w h0).2.2
 obtain⟨n,hn⟩:∃n,n=L.length:=⟨_,rfl⟩
 rw[←hn]at hcell hin hlen ⊢
 have HN:=Lib.hid hn
 have HC:=Lib.hid hcell
 have HS:=Lib.hid hstep
 have HI:=Lib.hid hin
 have H0:=Lib.hid h0
 clear hcell hstep hin h0 hn
 go_enter Tryz.func95,Tryz.ntmps95
 go_wp2_with fail
 go_loopw [16] (fun i wr=>∃j:Nat,i= .int .i64 (j:Int)∧j≤n∧Inv j wr) (fun i _=>(n-(intOf i).toNat))
 case atStart=>exact⟨0,rfl,Nat.zero_le _,H0.out⟩
 case round=>
  obtain⟨j,rfl,hj,hJ⟩:=hrel
  have J:=Lib.hid hJ
  by_cases hlt:j<n
  ·obtain⟨c4,c1,a',cp',he,hP⟩:=HC.out j wr hJ
   obtain⟨b,cs,rfl,hb,hcs⟩:=hP.resolve_left (by intro e;have:=HN.out;rw[e]at this;simp at this;omega)
   obtain⟨rfl,_,_⟩:a=some ⟨b,0,none⟩∧True∧True:=by
    injection he with e1
    exact⟨e1,trivial,trivial⟩
   have cj:wr.cell? ⟨b,j,none⟩=some (.int .i64 ((L.getD j 0:Nat):Int)):=by
    rw[cell_of_row _ _ _ _ _ _ hb];exact hcs j (by have:=HN.out;omega)
   obtain⟨p,x,c,g,bb,hq,afp⟩:=HI.out j _ hlt hJ
   have HQ:=Lib.hid hq
   have HA:=Lib.hid afp
   have CW:Hid (∀V,Below wr.heap.size wr V→V.cell? ⟨ss,4,none⟩=some (.pointer (some ⟨tb,0,none⟩))∧V.cell? ⟨blk,1,none⟩=some (.int .i64 root)):=Lib.hid fun V hV=>
    ⟨(hV.cell (p:=⟨ss,4,none⟩) (oH (a:=⟨ss,4,none⟩) c4)).trans c4,(hV.cell (p:=⟨blk,1,none⟩) (oH (a:=⟨blk,1,none⟩) c1)).trans c1⟩
   have HQ1:=Lib.hid (HQ.out wr.drew (Below.refl _ _).drew)
   have HQ2:=Lib.hid (HQ.out (wr.alloc (.cells #[.bool false, .bool false, .bool false, .int .i64 0] 217)).drew ((Below.refl _ _).alloc (Nat.le_refl _) _).drew)
   generalize(L.getD j 0:Nat)=pg at cj HQ HA HQ1 HQ2
   clear hJ he hP hcs hq afp hb
   go_wp2_with fail
   go_cut [11]from 17 to 40 (fun v11 wx=>∃b9,v11= .pointer (some ⟨b9,0,none⟩)∧wx.heap[b9]? =some (eU (p,x,c,g))∧Below wr.heap.size wr wx)
   case first=>
    go_region_held3 (fun w'=>w'.cell? ⟨ss,4,none⟩=some (.pointer (some ⟨tb,0,none⟩))∧w'.cell? ⟨blk,1,none⟩=some (.int .i64 root)) (first
      |go_keep
      |with_reducible exact CW.out w5 B5.out
      |with_reducible exact CW.out _ (Below.refl _ _).drew
      |with_reducible exact CW.out _ ((Below.refl _ _).alloc (Nat.le_refl _) _).drew
      |with_reducible exact CW.out _ (B5.out.alloc B5.out.size _)
      |with_reducible exact CW.out _ B5p.out)
     (first
      |((go_at_call 136;with_reducible refine HQ1.out.mono ?_);rintro e w5 ⟨rfl,hb5⟩;have B5:=Lib.hid (eF hb5);clear hb5)
      |((go_at_call 136;with_reducible refine HQ2.out.mono ?_);rintro e w5 ⟨rfl,hb5⟩;have B5:Hid (Below wr.heap.size wr w5):=Lib.hid (vV hb5);have E5:Hid (w5.heap[wr.heap.size]? =some (eU z0)):=Lib.hid (below_block hb5 (heap_alloc_new wr _));have f0:=frozen_of_row _ wr.heap.size 0 _ _ E5.out;have f1:=frozen_of_row _ wr.heap.size 1 _ _ E5.out;have f2:=frozen_of_row _ wr.heap.size 2 _ _ E5.out;have f3:=frozen_of_row _ wr.heap.size 3 _ _ E5.out;have B5p:Hid (Below wr.heap.size wr ((((w5.setCell ⟨wr.heap.size,0,none⟩ (.bool p)).setCell ⟨wr.heap.size,1,none⟩ (.bool x)).setCell ⟨wr.heap.size,2,none⟩ (.bool c)).setCell ⟨wr.heap.size,3,none⟩ (.int .i64 g))):=Lib.hid (dM (e':=(p,x,c,g)) B5.out (Nat.le_refl _));obtain⟨q0,q1,q2,q3⟩:=aU (e:=z0) E5.out;clear hb5))
    all_goals
     go_wp2_with fail
     go_meet
     case rel=>first|exact⟨_,rfl,heap_alloc_new w5 _,B5.out.alloc B5.out.size _⟩|exact⟨_,rfl,gL (e':=(p,x,c,g)) E5.out,dM (e':=(p,x,c,g)) B5.out (Nat.le_refl _)⟩
   case rest=>
    obtain⟨b9,rfl,TF,qy⟩:=hcut
    obtain⟨w6,hw6⟩:∃w6,w6=wc:=⟨_,rfl⟩
    rw[←hw6]at TF qy ⊢
    clear hw6
    obtain⟨m0,m1,m2,m3⟩:=aU TF
    simp only at m0 m1 m2 m3
    have B9:=Lib.hid qy
    clear TF qy
    go_wp2_with fail
    refine(HA.out _ B9.out).mono ?_
    rintro e w7 ⟨er,rfl,⟨rfl,hi⟩|⟨hne,hf⟩⟩
    ·have I7:=Lib.hid hi
     clear hi
     go_wp2
     go_roundw
     case rel=>exact⟨j+1,by go_num,by omega,I7.out⟩
     case measure=>simp[intOf];omega
    ·have F7:=Lib.hid hf
     have NE:=Lib.hid hne
     have hne':(er !=0)=true:=by simpa using hne
     clear hf hne
     go_wp2
     go_ret
     exact⟨er,rfl,Or.inr ⟨NE.out,F7.out⟩⟩
  ·obtain rfl:j=n:=by omega
   go_wp2
   go_ret
   exact⟨_,rfl,Or.inl ⟨rfl,J.out⟩⟩
end
section
structure Link(W:Nat→Option Sp)(G:Int→Option Pc)(D:Int→Option Sp):Prop where
 none_:∀i,G i=none→D i=none
 some_:∀i s,G i=some s→(W s.root).isSome=true∧D i=W s.root
 inj:∀i j s t,G i=some s→G j=some t→s.root=t.root→i=j
theorem Link.of{W:Nat→Option Sp}{G:Int→Option Pc}{D:Int→Option Sp}(h:Link W G D){i:Int}{s:Pc}{F:Sp}(hG:G i=some s)(hD:D i=some F):W s.root=some F:=by
 rw[←(h.some_ i s hG).2];exact hD
theorem Link.set{W:Nat→Option Sp}{G:Int→Option Pc}{D:Int→Option Sp}(h:Link W G D){i:Int}{s:Pc}(hG:G i=some s)(F:Sp):Link (j6 W s.root (some F)) G (aV D i (some F)):=by
 refine⟨fun j hj=>?_,fun j t hj=>?_,h.inj⟩
 ·have:j≠i:=by rintro rfl;rw[hG]at hj;cases hj
  rw[aJ _ _ _ this];exact h.none_ j hj
 ·by_cases e:j=i
  ·subst e
   rw[hG]at hj
   cases hj
   rw[aQ,aR];exact⟨rfl,rfl⟩
  ·have:t.root≠s.root:=fun e2=>e (h.inj j i t s hj hG e2)
   rw[au _ _ _ _ this,aJ _ _ _ e];exact h.some_ j t hj
def BL(W0 w:World)(I:lK)(c:Nat)(Q:Nat→Nat)(V:Nat→Nat→Int)(Lb:List Nd)(G:Int→Option Pc)(D:Int→Option Sp):Prop:=∃W Pb,Big W0 w I c W Q V Pb Lb G∧Link W G D
def Ends(W0 w w':World)(I:lK)(c:Nat)(Q:Nat→Nat)(V:Nat→Nat→Int)(Lb:List Nd)(G:Int→Option Pc)(D:Int→Option Sp):Prop:=BL W0 w' I c Q V Lb G D∧ay w w'
section
variable {W0 w:World} {I:lK} {c:Nat} {Q:Nat→Nat} {V:Nat→Nat→Int} {Lb:List Nd} {G:Int→Option Pc} {D:Int→Option Sp}
theorem BL.step{w':World}(h:BL W0 w I c Q V Lb G D)(hb:Below w.heap.size w w'):BL W0 w' I c Q V Lb G D:=by
 obtain⟨W,Pb,h1,h2⟩:=h
 exact⟨W,Pb,h1.step hb,h2⟩
theorem Ends.stay{w':World}(h:BL W0 w I c Q V Lb G D)(hb:Below w.heap.size w w'):Ends W0 w w' I c Q V Lb G D:=⟨h.step hb,ay.below hb⟩
theorem Ends.next{w1 w2:World}{c1 c2:Nat}{Q1 Q2:Nat→Nat}{V1 V2:Nat→Nat→Int}{L1 L2:List Nd}{G1 G2:Int→Option Pc}{D1 D2:Int→Option Sp}(h:Ends W0 w w1 I c1 Q1 V1 L1 G1 D1)(k:Ends W0 w1 w2 I c2 Q2 V2 L2 G2 D2):Ends W0 w w2 I c2 Q2 V2 L2 G2 D2:=⟨k.1,h.2.trans k.2⟩
theorem Ends.ahead{w1 w2:World}(hb:Below w.heap.size w w1)(k:Ends W0 w1 w2 I c Q V Lb G D):Ends W0 w w2 I c Q V Lb G D:=⟨k.1,(ay.below hb).trans k.2⟩
theorem Ends.behind{w1 w2:World}(k:Ends W0 w w1 I c Q V Lb G D)(hb:Below w1.heap.size w1 w2):Ends W0 w w2 I c Q V Lb G D:=⟨k.1.step hb,k.2.trans (ay.below hb)⟩
theorem BL.cells(h:BL W0 w I c Q V Lb G D):w.cell? ⟨I.ss,0,none⟩=some (.pointer (some ⟨I.X.mp,0,none⟩))∧w.cell? ⟨I.ss,1,none⟩=some (.pointer (some ⟨I.X.pb,0,none⟩))∧w.cell? ⟨I.ss,2,none⟩=some (.int .i64 0)∧w.cell? ⟨I.ss,3,none⟩=some (.pointer (some ⟨I.bb,0,none⟩))∧w.cell? ⟨I.ss,4,none⟩=some (.pointer (some ⟨I.tb,0,none⟩))∧w.cell? ⟨I.ss,5,none⟩=some (.map (some I.mm)):=by
 obtain⟨W,Pb,h1,_⟩:=h
 exact h1.cells
theorem BL.iK(h:BL W0 w I c Q V Lb G D){i:Int}{s:Pc}(hi:G i=some s):w.cell? ⟨s.blk,0,none⟩=some (.int .i64 i)∧w.cell? ⟨s.blk,1,none⟩=some (.int .i64 (s.root:Int))∧w.cell? ⟨s.blk,2,none⟩=some s.v:=by
 obtain⟨W,Pb,h1,_⟩:=h
 exact h1.iK hi
theorem BL.area(h:BL W0 w I c Q V Lb G D){i:Int}{s:Pc}(hi:G i=some s):uW w s.v s.ar∧qQ s.ar:=by
 obtain⟨W,Pb,h1,_⟩:=h
 exact(h1.sp i s hi).2
theorem BL.below(h:BL W0 w I c Q V Lb G D):Below W0.heap.size W0 w:=by
 obtain⟨W,Pb,h1,_⟩:=h
 exact h1.sys.below
theorem BL.Qg(h:BL W0 w I c Q V Lb G D):aM w:=by
 obtain⟨W,Pb,h1,_⟩:=h
 exact h1.sys.Qg
theorem BL.mo(h:BL W0 w I c Q V Lb G D):I.n≤1024∧I.lo<I.hi∧I.hi≤I.n:=by
 obtain⟨W,Pb,h1,_⟩:=h
 have:=h1.sys.facts
 exact⟨this.2.2.1,this.1,this.2.1⟩
theorem BL.TG(h:BL W0 w I c Q V Lb G D){i:Int}{s:Pc}(hG:G i=some s):∃F,D i=some F:=by
 obtain⟨W,Pb,_,h2⟩:=h
 obtain⟨h3,h4⟩:=h2.some_ i s hG
 rw[h4]
 exact Option.isSome_iff_exists.1 h3
theorem BL.root(h:BL W0 w I c Q V Lb G D){i:Int}{s:Pc}(hG:G i=some s):s.root<I.n:=by
 obtain⟨W,Pb,h1,h2⟩:=h
 have h3:=h1.sys.facts
 have h4:=h3.2.2.2.2.2.2.2 s.root (h2.some_ i s hG).1
 omega
theorem Dh{n:Nat}(h:n≤100000):I64 (n:Int):=by unfold I64;omega
theorem yL{W:Nat→Option Sp}{r p:Nat}{F:Sp}(hw:W r=some F)(hp:p<1024):cK W (r:Int) (p:Int) true=0:=by
 unfold cK
 rw[if_pos ⟨by omega,rfl⟩,gP,hw];rfl
theorem Gl{W:Nat→Option Sp}{r p:Nat}{F:Sp}(hw:W r=some F)(hp:p<1024):eu W (r:Int) (p:Int)=if(F p).1=true then 0 else 4:=by
 unfold eu
 rw[if_pos (yL hw hp),gP,hw];simp
theorem Om{W:Nat→Option Sp}{r:Nat}{p:Nat}(hp:¬p<1024):eu W (r:Int) (p:Int)=2:=by
 unfold eu
 have:cK W (r:Int) (p:Int) true=2:=qM (by omega)
 rw[if_neg (by rw[this];decide),this]
def MJ(F:Sp)(p:Nat):fQ:=if p<1024∧(F p).1=true then F p else z0
theorem IY{W:Nat→Option Sp}{r p:Nat}{F:Sp}(hw:W r=some F)(e:fQ):vN W (r:Int) (p:Int) e=j6 W r (some (aI F p e)):=by unfold vN;rw[gP,hw];simp
theorem BL.map(h:BL W0 w I c Q V Lb G D){i:Int}{s:Pc}{F:Sp}(hG:G i=some s)(hD:D i=some F){p:Nat}(hp:p<1024)(hF:(F p).1=false){x0 x1 x2:Bool}{g:Int}(he:mU I.n (x0,x1,x2,g))(hc:newT F p≤c):
  Calls Tryz.prog 160 #[.pointer (some ⟨I.tb,0,none⟩), .int .i64 (s.root:Int), .int .i64 (p:Int),ent x0 x1 x2 g] w fun e w'=>e= .returned (.int .i64 0)∧Ends W0 w w' I (c-newT F p) Q V Lb G (aV D i (some (aI F p (x0,x1,x2,g)))):=by
 have hr:=h.root hG
 have hn:=h.mo.1
 obtain⟨W,Pb,h1,h2⟩:=h
 have hw:=h2.of hG hD
 have e0:lI I.n W c (s.root:Int) (p:Int) (x0,x1,x2,g)=0:=by
  unfold lI
  rw[(wT I.n _).2 he,if_pos (yL hw hp),gP,hw]
  simp only[Int.toNat_natCast,hF]
  unfold newT at hc
  by_cases hb:hasB F (p/32)=true
  ·simp[hb]
  ·rw[if_neg hb]at hc
   simp;omega
 have:=h1.sys.map (s.root:Int) (p:Int) x0 x1 x2 g (Dh (by omega)) (Dh (by omega))
 rw[e0]at this
 refine this.mono fun e w' ⟨a,b⟩=>⟨a,?_⟩
 unfold adj adk at b
 rw[if_pos e0,if_pos e0,IY hw]at b
 have e1:needs W (s.root:Int) (p:Int)=newT F p:=by unfold needs newT;rw[gP,hw];simp
 rw[e1]at b
 obtain⟨k1,k2⟩:=h1.Gj b
 exact⟨⟨_,Pb,k1,h2.set hG _⟩,k2⟩
theorem BL.set(h:BL W0 w I c Q V Lb G D){i:Int}{s:Pc}{F:Sp}(hG:G i=some s)(hD:D i=some F){p:Nat}(hp:p<1024)(hF:(F p).1=true){x0 x1 x2:Bool}{g:Int}(he:mU I.n (x0,x1,x2,g)):
  Calls Tryz.prog 161 #[.pointer (some ⟨I.tb,0,none⟩), .int .i64 (s.root:Int), .int .i64 (p:Int),ent x0 x1 x2 g] w fun e w'=>e= .returned (.int .i64 0)∧Ends W0 w w' I c Q V Lb G (aV D i (some (aI F p (x0,x1,x2,g)))):=by
 have hr:=h.root hG
 have hn:=h.mo.1
 obtain⟨W,Pb,h1,h2⟩:=h
 have hw:=h2.of hG hD
 have e0:jf I.n W (s.root:Int) (p:Int) (x0,x1,x2,g)=0:=by
  unfold jf
  rw[(wT I.n _).2 he,if_pos (yL hw hp),gP,hw]
  simp[hF]
 have:=h1.sys.set (s.root:Int) (p:Int) x0 x1 x2 g (Dh (by omega)) (Dh (by omega))
 rw[e0]at this
 refine this.mono fun e w' ⟨a,b⟩=>⟨a,?_⟩
 unfold setW at b
 rw[if_pos e0,IY hw]at b
 obtain⟨k1,k2⟩:=h1.Gj b
 exact⟨⟨_,Pb,k1,h2.set hG _⟩,k2⟩
theorem BL.unmap(h:BL W0 w I c Q V Lb G D){i:Int}{s:Pc}{F:Sp}(hG:G i=some s)(hD:D i=some F){p:Nat}(hp:p<1024){x1 x2:Bool}{g:Int}(hF:F p=(true,x1,x2,g)):
  Calls Tryz.prog 142 #[.pointer (some ⟨I.tb,0,none⟩), .int .i64 (s.root:Int), .int .i64 (p:Int)] w fun e w'=>e= .returned (.tuple #[ent true x1 x2 g, .int .i64 0])∧Ends W0 w w' I (c+newT (aI F p z0) p) Q V Lb G (aV D i (some (aI F p z0))):=by
 have hr:=h.root hG
 have hn:=h.mo.1
 obtain⟨W,Pb,h1,h2⟩:=h
 have hw:=h2.of hG hD
 have e0:eu W (s.root:Int) (p:Int)=0:=by rw[Gl hw hp,hF];rfl
 have:=h1.sys.unmap (s.root:Int) (p:Int) (Dh (by omega)) (Dh (by omega)) (p:=true) (x:=x1) (k:=x2) (g:=g) (by unfold Cn;rw[if_pos e0];unfold KS;rw[gP,hw];simpa using hF)
 rw[e0]at this
 refine this.mono fun e w' ⟨a,b⟩=>⟨a,?_⟩
 unfold adl adn at b
 rw[if_pos e0,if_pos e0,IY hw]at b
 have e1:frees W (s.root:Int) (p:Int)=newT (aI F p z0) p:=by unfold frees newT;rw[gP,hw];simp
 rw[e1]at b
 obtain⟨k1,k2⟩:=h1.Gj b
 exact⟨⟨_,Pb,k1,h2.set hG _⟩,k2⟩
theorem BL.tables(h:BL W0 w I c Q V Lb G D){i:Int}{s:Pc}{F:Sp}(hG:G i=some s)(hD:D i=some F):
  Calls Tryz.prog 156 #[.pointer (some ⟨I.tb,0,none⟩), .int .i64 (s.root:Int)] w fun e w'=>e= .returned (.int .i64 (vP F:Int))∧Below w.heap.size w w':=by
 have hr:=h.root hG
 have hn:=h.mo.1
 obtain⟨W,Pb,h1,h2⟩:=h
 have hw:=h2.of hG hD
 have:=h1.sys.tables (s.root:Int) (Dh (by omega))
 unfold Kz at this
 rw[gP,hw]at this
 exact this
theorem BL.all(h:BL W0 w I c Q V Lb G D){i:Int}{s:Pc}{F:Sp}(hG:G i=some s)(hD:D i=some F):
  Calls Tryz.prog 157 #[.pointer (some ⟨I.tb,0,none⟩), .int .i64 (s.root:Int)] w (wR w (NZ F)):=by
 have hr:=h.root hG
 have hn:=h.mo.1
 obtain⟨W,Pb,h1,h2⟩:=h
 have hw:=h2.of hG hD
 have:=h1.sys.all (s.root:Int) (Dh (by omega))
 unfold aak at this
 rw[gP,hw]at this
 exact this
theorem BL.turn{c':Nat}{W:Nat→Option Sp}{Pb:Pt}{Q':Nat→Nat}{V':Nat→Nat→Int}{w':World}(h1:Big W0 w I c W Q V Pb Lb G)(h2:Link W G D)(b:mV W0 w w' I.tb I.sb I.X I.n I.lo I.hi c' W Q' V'):Ends W0 w w' I c' Q' V' Lb G D:=by
 obtain⟨k1,k2⟩:=h1.Gj b
 exact⟨⟨_,Pb,k1,h2⟩,k2⟩
theorem BL.alloc(h:BL W0 w I c Q V Lb G D)(hc:c≠0):Calls Tryz.prog 185 #[.pointer (some ⟨I.X.pb,0,none⟩), .int .i64 0] w fun e w'=>∃x:Nat,x<I.n∧Q x=0∧e= .returned (.tuple #[.int .i64 (x:Int), .int .i64 0])∧Ends W0 w w' I (c-1) (upd Q x 1) (jK V x) Lb G D:=by
 have hn:=h.mo
 obtain⟨W,Pb,h1,h2⟩:=h
 refine(h1.sys.alloc hc).mono ?_
 rintro e w' ⟨x,hx,hq,_,rfl,hg⟩
 exact⟨x,by omega,hq,rfl,BL.turn h1 h2 hg⟩
theorem BL.share(h:BL W0 w I c Q V Lb G D)(f:Nat)(h0:Q f≠0)(h1:Q f<64):Calls Tryz.prog 162 #[.pointer (some ⟨I.X.pb,0,none⟩), .int .i64 (f:Int)] w fun e w'=>e= .returned (.int .i64 0)∧Ends W0 w w' I c (upd Q f (Q f+1)) V Lb G D:=by
 obtain⟨W,Pb,k1,k2⟩:=h
 exact(k1.sys.share f h0 h1).mono fun e w' ⟨a,b⟩=>⟨a,BL.turn k1 k2 b⟩
theorem BL.free(h:BL W0 w I c Q V Lb G D)(f:Nat)(h0:Q f≠0):Calls Tryz.prog 143 #[.pointer (some ⟨I.X.pb,0,none⟩), .int .i64 (f:Int)] w fun e w'=>e= .returned (.int .i64 0)∧Ends W0 w w' I (if Q f=1 then c+1 else c) (upd Q f (Q f-1)) V Lb G D:=by
 obtain⟨W,Pb,k1,k2⟩:=h
 exact(k1.sys.free f h0).mono fun e w' ⟨a,b⟩=>⟨a,BL.turn k1 k2 b⟩
theorem BL.refs(h:BL W0 w I c Q V Lb G D)(f:Nat)(h0:Q f≠0):Calls Tryz.prog 189 #[.pointer (some ⟨I.X.pb,0,none⟩), .int .i64 (f:Int)] w fun e w'=>e= .returned (.int .i64 (Q f:Int))∧w=w':=by
 obtain⟨W,Pb,k1,k2⟩:=h
 exact k1.sys.refs f h0
theorem BL.left(h:BL W0 w I c Q V Lb G D):Calls Tryz.prog 35 #[.pointer (some ⟨I.X.pb,0,none⟩), .int .i64 0] w fun e w'=>e= .returned (.int .i64 (c:Int))∧Below w.heap.size w w':=by
 obtain⟨W,Pb,k1,k2⟩:=h
 exact k1.sys.left
theorem BL.write(h:BL W0 w I c Q V Lb G D)(f q:Nat)(v:Int)(h0:Q f≠0)(hq:q<32)(hv:0≤v∧v<4294967296):Calls Tryz.prog 87 #[.pointer (some ⟨I.X.mp,0,none⟩), .int .i64 (f:Int), .int .i64 (q:Int), .int .u32 v] w fun e w'=>e= .returned (.int .i64 0)∧Ends W0 w w' I c Q (vR V f q v) Lb G D:=by
 obtain⟨W,Pb,k1,k2⟩:=h
 exact(k1.sys.write f q v h0 hq hv).mono fun e w' ⟨a,b⟩=>⟨a,BL.turn k1 k2 b⟩
theorem BL.copy(h:BL W0 w I c Q V Lb G D)(x f:Nat)(h0:Q f≠0)(h1:Q x≠0):Calls Tryz.prog 238 #[.pointer (some ⟨I.X.mp,0,none⟩), .int .i64 (x:Int), .int .i64 (f:Int)] w fun e w'=>e= .returned (.int .i64 0)∧Ends W0 w w' I c Q (copyV V x f) Lb G D:=by
 obtain⟨W,Pb,k1,k2⟩:=h
 exact(k1.sys.copy x f h0 h1).mono fun e w' ⟨a,b⟩=>⟨a,BL.turn k1 k2 b⟩
theorem BL.goes{dO:List Nd}{W:Nat→Option Sp}{w':World}(h2:Link W G D)(h:Goes W0 w w' I c W Q V dO G):Ends W0 w w' I c Q V dO G D:=by
 obtain⟨⟨Pb,h1⟩,hk⟩:=h
 exact⟨⟨W,Pb,h1,h2⟩,hk⟩
theorem BL.nE(h:BL W0 w I c Q V Lb G D)(id n:Int){er:Int}(he:aX Lb id n=er):Calls Tryz.prog 132 #[.pointer (some ⟨I.bb,0,none⟩), .int .i64 id, .int .i64 n] w fun e w'=>e= .returned (.int .i64 er)∧Ends W0 w w' I c Q V (aF Lb id n) G D:=by
 obtain⟨W,Pb,k1,k2⟩:=h
 exact(U6 k1.ko id n he).mono fun e w' ⟨a,T⟩=>⟨a,BL.goes k2 (k1.Qq T)⟩
theorem BL.oQ(h:BL W0 w I c Q V Lb G D)(id n:Int){er:Int}(he:fH Lb id n=er):Calls Tryz.prog 110 #[.pointer (some ⟨I.bb,0,none⟩), .int .i64 id, .int .i64 n] w fun e w'=>e= .returned (.int .i64 er)∧Ends W0 w w' I c Q V (bI Lb id n) G D:=by
 obtain⟨W,Pb,k1,k2⟩:=h
 exact(U7 k1.ko id n he).mono fun e w' ⟨a,T⟩=>⟨a,BL.goes k2 (k1.Qq T)⟩
theorem BL.Ld(h:BL W0 w I c Q V Lb G D)(id up n:Int){er:Int}(he:jc Lb id up n=er):Calls Tryz.prog 89 #[.pointer (some ⟨I.bb,0,none⟩), .int .i64 id, .int .i64 up, .int .i64 n] w fun e w'=>e= .returned (.int .i64 er)∧Ends W0 w w' I c Q V (dx Lb id up n) G D:=by
 obtain⟨W,Pb,k1,k2⟩:=h
 exact(ac3 k1.ko id up n he).mono fun e w' ⟨a,T⟩=>⟨a,BL.goes k2 (k1.Qq T)⟩
theorem BL.abF(h:BL W0 w I c Q V Lb G D)(id:Int){d:Int}(hd:aS Lb id=d):Calls Tryz.prog 64 #[.pointer (some ⟨I.bb,0,none⟩), .int .i64 id] w fun e w'=>e= .returned (.int .i64 d)∧Below w.heap.size w w':=by
 obtain⟨W,Pb,k1,k2⟩:=h
 exact U3 k1.ko id hd
theorem BL.afq(h:BL W0 w I c Q V Lb G D):Calls Tryz.prog 90 #[.pointer (some ⟨I.bb,0,none⟩)] w (EJ w Lb):=by
 obtain⟨W,Pb,k1,k2⟩:=h
 exact uo k1.ko
end
end
end Go.Proofs.YtammlljefhakmaaGreatDoor
