/- Helps of the proof. No condition. -/
import Derived.Test.YtammlljefhakmaaGreatDoorHA
import Derived.Maps.OwnIn
import Derived.Maps.Views
import Derived.Deep.RegionHeld3
import Derived.Laws.OwnMore
import Derived.Test.YtammlljefhakmaaGreatDoorR3
namespace Go.Proofs.YtammlljefhakmaaGreatDoor
open Go.RowKit
set_option maxRecDepth 100000
abbrev okY(n:Int)(p:Nd):Prop:=(1≤p.1∧p.1≤n)∧(0≤p.2.1∧p.2.1≤8)∧(1≤p.2.2.1∧p.2.2.1≤3)∧0≤p.2.2.2∧p.2.2.2≤4294967295
structure aL(n:Int)(L:List Nd):Prop where
 most:1≤n∧n≤8
 up:L.Pairwise (fun a b=>a.1<b.1)
 ok:∀p∈L,okY n p
theorem xQ{n:Int}:∀{L:List Nd} {a:Int},L.Pairwise (fun a b=>a.1<b.1)→(∀p∈L,a≤p.1∧p.1≤n)→a≤n+1→(L.length:Int)≤n+1-a
 |[],a,_,_,h=>by simp;omega
 |p::r,a,hp,h,_=>by
  obtain⟨h1,h2⟩:=List.pairwise_cons.1 hp
  have hn:=h p (by simp)
  have:=xQ (L:=r) (a:=p.1+1) h2 (fun x hx=>⟨by have:=h1 x hx;omega,(h x (List.mem_cons_of_mem _ hx)).2⟩) (by omega)
  simp only[List.length_cons]
  omega
theorem aL.len{n:Int}{L:List Nd}(h:aL n L):(L.length:Int)≤n:=by
 have:=xQ (a:=1) h.up (fun p hp=>(h.ok p hp).1) (by have:=h.most;omega)
 omega
theorem aL.at_{n:Int}{L:List Nd}(h:aL n L){i:Int}{p:Nd}(e:aD i L=some p):(1≤i∧i≤n)∧p.1=i∧okY n p:=by
 have h1:=h.ok p (aj e).1
 have h2:=(aj e).2
 exact⟨⟨by omega,by omega⟩,h2,h1⟩
theorem Vb{n:Int}{L:List Nd}(h:aL n L):jh 1 L=[]:=by
 unfold jh
 rw[List.filter_eq_nil_iff]
 intro p hp
 have:=(h.ok p hp).1
 simp;omega
theorem Ve{n:Int}{L:List Nd}(h:aL n L):jh (n+1) L=L:=by
 unfold jh
 rw[List.filter_eq_self]
 intro p hp
 have:=(h.ok p hp).1
 simp;omega
def aG(k:Int):List Nd→Int
 |[]=>k
 |x::r=>if x.1=k then aG (k+1) r else k
theorem vC:∀{L:List Nd} {k:Int},L.Pairwise (fun a b=>a.1<b.1)→(∀p∈L,k≤p.1)→
  (k≤aG k L∧aG k L≤k+L.length)∧(∀p∈L,p.1≠aG k L)∧(∀i,k≤i→i<aG k L→∃p∈L,p.1=i)∧(∀j,j<L.length→(j:Int)<aG k L-k→(L.getD j default).1=k+j)∧(∀j,j<L.length→aG k L-k≤j→aG k L<(L.getD j default).1)
 |[],k,_,_=>by
  refine⟨by simp[aG],by simp,fun i h1 h2=>?_,by simp,by simp⟩
  simp only[aG]at h2
  omega
 | x ::r,k,hp,h=>by
  obtain⟨h1,h2⟩:=List.pairwise_cons.1 hp
  unfold aG
  have hx:=h x (by simp)
  by_cases c:x.1=k
  ·rw[if_pos c]
   obtain⟨⟨a1,a2⟩,a3,a4,a5,a6⟩:=vC (L:=r) (k:=k+1) h2 (fun p hp=>by have:=h1 p hp;omega)
   refine⟨⟨by omega,by simp only[List.length_cons];omega⟩,?_,?_,?_,?_⟩
   ·intro p hp
    rcases List.mem_cons.1 hp with rfl|hp
    ·omega
    ·exact a3 p hp
   ·intro i i1 i2
    by_cases e:i=k
    ·exact⟨x,by simp,by omega⟩
    ·obtain⟨p,hp,rfl⟩:=a4 i (by omega) i2
     exact⟨p,List.mem_cons_of_mem _ hp,rfl⟩
   ·intro j j1 j2
    cases j with
    |zero=>simpa using c
    |succ j=>
     have:=a5 j (by simpa using j1) (by omega)
     simp only[List.getD_cons_succ]
     omega
   ·intro j j1 j2
    cases j with
    |zero=>omega
    |succ j=>
     have:=a6 j (by simpa using j1) (by omega)
     simpa using this
  ·rw[if_neg c]
   refine⟨⟨by omega,by simp only[List.length_cons];omega⟩,?_,fun i i1 i2=>by omega,fun j _ j2=>by omega,?_⟩
   ·intro p hp
    rcases List.mem_cons.1 hp with rfl|hp
    ·exact c
    ·have:=h1 p hp;omega
   ·intro j j1 _
    cases j with
    |zero=>simp only[List.getD_cons_zero];omega
    |succ j=>
     have:=h1 (r.getD j default) (xM (by simpa using j1))
     simp only[List.getD_cons_succ]
     omega
theorem Bo{n:Int}:∀{L:List Nd} {k:Int},L.Pairwise (fun a b=>a.1<b.1)→(∀p∈L,k≤p.1∧p.1≤n)→k≤n+1→(n<aG k L↔(L.length:Int)=n+1-k)
 |[],k,_,_,h=>by simp[aG];omega
 | x::r,k,hp,h,hk=>by
  obtain⟨h1,h2⟩:=List.pairwise_cons.1 hp
  have hx:=h x (by simp)
  unfold aG
  by_cases c:x.1=k
  ·rw[if_pos c]
   have:=Bo (n:=n) (L:=r) (k:=k+1) h2 (fun p hp=>⟨by have:=h1 p hp;omega,(h p (List.mem_cons_of_mem _ hp)).2⟩) (by omega)
   rw[this]
   simp only[List.length_cons]
   omega
  ·rw[if_neg c]
   have:=xQ (n:=n) (L:=x::r) (a:=k+1) hp (fun p hp=>⟨by
    rcases List.mem_cons.1 hp with rfl|hp
    ·omega
    ·have:=h1 p hp;omega,(h p hp).2⟩) (by omega)
   omega
abbrev Rp:=Int×Int×Int
def rR(j:Int)(L:List Nd):Option Nd:=L.find? fun x=>decide (x.2.1=j)&&decide (x.2.2.1=3)
def mP(j:Int)(L:List Nd):Bool:=L.any fun x=>decide (x.2.1=j)
def setSt(id s:Int)(x:Nd):Nd:=if x.1=id then(x.1,x.2.1,s,x.2.2.2)else x
def oC(id c:Int)(x:Nd):Nd:=if x.1=id then(x.1,x.2.1,3,c)else x
def kT(j:Int)(L:List Nd):Option Nd:=match aD j L with
 |none=>none
 |some p=>if p.2.2.1=2 then rR j L else none
def kG(j:Int)(L:List Nd):List Nd:=match kT j L with
 |none=>L
 |some c=>fT c.1 (L.map (setSt j 1))
def oG(j:Int)(L:List Nd):List Rp:=match kT j L with
 |none=>[]
 |some c=>[(j,c.1,c.2.2.2)]
def kH:Nat→List Nd→List Nd
 |0,L=>L
 |k+1,L=>kG ((k:Int)+1) (kH k L)
def mH:Nat→List Nd→List Rp
 |0,_=>[]
 |k+1,L=>mH k L++oG ((k:Int)+1) (kH k L)
def qD(n:Int)(L:List Nd):List Nd:=kH n.toNat L
def vD(n:Int)(L:List Nd):List Rp:=mH n.toNat L
theorem bV(id s:Int)(x:Nd):(setSt id s x).1=x.1:=by unfold setSt;split<;>rfl
theorem wE(id s:Int)(x:Nd):(oC id s x).1=x.1:=by unfold oC;split<;>rfl
theorem EO{j:Int}{L:List Nd}{c:Nd}(h:rR j L=some c):c∈L∧c.2.1=j∧c.2.2.1=3:=by
 unfold rR at h
 have h1:=List.find?_some h
 simp only[Bool.and_eq_true,decide_eq_true_eq]at h1
 exact⟨List.mem_of_find?_eq_some h,h1.1,h1.2⟩
theorem lg{j:Int}{L:List Nd}{c:Nd}(h:kT j L=some c):(∃p,aD j L=some p∧p.2.2.1=2)∧c∈L∧c.2.1=j∧c.2.2.1=3:=by
 unfold kT at h
 cases e:aD j L with
 |none=>simp[e]at h
 |some p=>
  simp only[e]at h
  split at h
  ·rename_i e2;exact⟨⟨p,rfl,e2⟩,EO h⟩
  ·cases h
theorem aL.map{n:Int}{L:List Nd}(h:aL n L){f:Nd→Nd}(hf:∀p,(f p).1=p.1)(hk:∀p,p∈L→okY n p→okY n (f p)):aL n (L.map f):=
 ⟨h.most,sj hf h.up,fun q hq=>by
  obtain⟨p,hp,rfl⟩:=List.mem_map.1 hq
  exact hk p hp (h.ok p hp)⟩
theorem aL.del{n:Int}{L:List Nd}(h:aL n L)(id:Int):aL n (fT id L):=⟨h.most,um h.up,fun p hp=>h.ok p (iF.1 hp).1⟩
theorem aL.ins{n:Int}{L:List Nd}(h:aL n L){x:Nd}(hx:okY n x)(hn:∀p∈L,p.1≠x.1):aL n (jF x L):=
 ⟨h.most,xO h.up hn,fun p hp=>by
  rcases eG.1 hp with rfl|hp
  ·exact hx
  ·exact h.ok p hp⟩
theorem aL.setSt{n:Int}{L:List Nd}(h:aL n L)(id s:Int)(hs:1≤s∧s≤3):aL n (L.map (setSt id s)):=
 h.map (bV id s) fun p _ hp=>by unfold Proofs.YtammlljefhakmaaGreatDoor.setSt;split;{ exact⟨hp.1,hp.2.1,hs,hp.2.2.2⟩ };exact hp
theorem aL.oC{n:Int}{L:List Nd}(h:aL n L)(id c:Int)(hc:0≤c∧c≤4294967295):aL n (L.map (oC id c)):=
 h.map (wE id c) fun p _ hp=>by unfold Proofs.YtammlljefhakmaaGreatDoor.oC;split;{ exact⟨hp.1,hp.2.1,(show(1:Int)≤3∧(3:Int)≤3 by decide),hc⟩ };exact hp
theorem aL.fP{n:Int}{L:List Nd}(h:aL n L)(id:Int):aL n (L.map (fP id 1)):=
 h.map (kC id 1) fun p _ hp=>by unfold Proofs.YtammlljefhakmaaGreatDoor.fP;split;{ exact⟨hp.1,(show(0:Int)≤1∧(1:Int)≤8 by decide),hp.2.2⟩ };exact hp
theorem aL.step{n:Int}{L:List Nd}(h:aL n L)(j:Int):aL n (kG j L):=by
 unfold kG
 split
 ·exact h
 ·exact(h.setSt j 1 (by decide)).del _
theorem aL.YQ{n:Int}{L:List Nd}(h:aL n L):∀k,aL n (kH k L)
 |0=>h
 |k+1=>(h.YQ k).step _
theorem zw{L:List Nd}(hp:L.Pairwise (fun a b=>a.1<b.1)){c:Nd}(hc:c∈L):(fT c.1 L).length+1=L.length:=by
 induction L with
 |nil=>cases hc
 | cons x r ih=>
  obtain⟨h1,h2⟩:=List.pairwise_cons.1 hp
  unfold fT at ih ⊢
  rcases List.mem_cons.1 hc with rfl|hc
  ·rw[List.filter_cons_of_neg (by simp),List.filter_eq_self.2 (fun y hy=>by have:=h1 y hy;simp;omega)];rfl
  ·have:=h1 c hc
   rw[List.filter_cons_of_pos (by simp;omega),List.length_cons,ih h2 hc,List.length_cons]
theorem zx(x:Nd):∀(L:List Nd),(jF x L).length=L.length+1
 |[]=>rfl
 |y::r=>by unfold jF;split<;>simp[zx x r]
def l6(n:Int)(L:List Nd)(parent:Int):Int:=match aD parent L with
 |none=>4
 |some p=>if p.2.2.1=3 then 9 else if(L.length:Int)=n then 3 else 0
def wF(n:Int)(L:List Nd)(parent:Int):Int:=if l6 n L parent=0 then aG 1 L else 0
def jd(n:Int)(L:List Nd)(parent:Int):List Nd:=if l6 n L parent=0 then jF (aG 1 L,parent,1,0) L else L
def eY(L:List Nd)(pid:Int):Int:=match aD pid L with
 |none=>4
 |some p=>if pid=1 then 8 else if p.2.2.1=3 then 9 else 0
def mQ(L:List Nd)(pid c:Int):List Nd:=(L.map (oC pid c)).map (fP pid 1)
def iA(n:Int)(L:List Nd)(pid c:Int):List Nd:=if eY L pid=0 then qD n (mQ L pid c)else L
def jR(n:Int)(L:List Nd)(pid c:Int):List Rp:=if eY L pid=0 then vD n (mQ L pid c)else[]
def fV(L:List Nd)(pid:Int):Int:=match aD pid L with
 |none=>4
 |some p=>if mP pid L=true then(if p.2.2.1=1 then 0 else 9)else 4
def fZ(n:Int)(L:List Nd)(pid:Int):List Nd:=if fV L pid=0 then qD n (L.map (setSt pid 2))else L
def iZ(n:Int)(L:List Nd)(pid:Int):List Rp:=if fV L pid=0 then vD n (L.map (setSt pid 2))else[]
def JE(L:List Nd)(pid:Int):Nd:=(aD pid L).getD (0,0,0,0)
theorem aL.free{n:Int}{L:List Nd}(h:aL n L)(hl:(L.length:Int)≠n):(1≤aG 1 L∧aG 1 L≤n)∧(∀p∈L,p.1≠aG 1 L):=by
 have h1:=vC (k:=1) h.up (fun p hp=>(h.ok p hp).1.1)
 have h2:=Bo (n:=n) (k:=1) h.up (fun p hp=>(h.ok p hp).1) (by have:=h.most;omega)
 refine⟨⟨h1.1.1,?_⟩,h1.2.1⟩
 by_cases c:n<aG 1 L
 ·have:=h2.1 c;omega
 ·omega
theorem aL.add{n:Int}{L:List Nd}(h:aL n L)(parent:Int):aL n (jd n L parent):=by
 unfold jd
 split
 ·rename_i e
  unfold l6 at e
  cases e2:aD parent L with
  |none=>simp[e2]at e
  | some p=>
   simp only[e2]at e
   split at e
   ·cases e
   ·split at e
    ·cases e
    ·rename_i hl
     have h1:=h.free hl
     have h2:=h.at_ e2
     have:=h.most
     exact h.ins ⟨h1.1,⟨by simp only;omega,by simp only;omega⟩,by simp only;decide,by simp only;decide⟩ h1.2
 ·exact h
theorem aL.mQ{n:Int}{L:List Nd}(h:aL n L)(pid:Int){c:Int}(hc:0≤c∧c≤4294967295):aL n (mQ L pid c):=(h.oC pid c hc).fP pid
theorem aL.exit{n:Int}{L:List Nd}(h:aL n L)(pid:Int){c:Int}(hc:0≤c∧c≤4294967295):aL n (iA n L pid c):=by
 unfold iA
 split
 ·exact(h.mQ pid hc).YQ _
 ·exact h
theorem aL.wait{n:Int}{L:List Nd}(h:aL n L)(pid:Int):aL n (fZ n L pid):=by
 unfold fZ
 split
 ·exact(h.setSt pid 2 (by decide)).YQ _
 ·exact h
end Go.Proofs.YtammlljefhakmaaGreatDoor
namespace Go.Proofs.YtammlljefhakmaaGreatDoor
open Go.RowKit Go.Maps
set_option maxRecDepth 100000
theorem Frames.tidy{D:DataW Unit}(h:Frames D):Tidy D:=let⟨es,e,hp,_⟩:=h;⟨es,e,hp⟩
def bg(w:World)(m:Nat)(P:Pt)(c:Nat):Prop:=∃(D:DataW Unit) (k:Nat),w.ownsMap Tryz.prog 3 lQ m k D∧k≤1024∧kE D P∧Maps.size D=c
theorem bg.made(w:World):bg (w.alloc (.map #[] 0)) w.heap.size (fun _=>none) 0:=⟨_,0,World.ownsMap_made _ _ _ _,by omega,kE.empty,rfl⟩
theorem bg.isMap{w:World}{b c:Nat}{P:Pt}(h:bg w b P c):∃es clock,w.heap[b]? =some (.map es clock):=by
 obtain⟨D,k,⟨es,clock,hb,_⟩,_⟩:=h
 exact⟨es,clock,hb⟩
theorem bg.lt{w:World}{b c:Nat}{P:Pt}(h:bg w b P c):b<w.heap.size:=by
 obtain⟨es,clock,hb⟩:=h.isMap
 exact lt_of_block hb
theorem bg.same{w w':World}{b c:Nat}{P:Pt}(h:bg w b P c)(e:w'.heap[b]? =w.heap[b]?):bg w' b P c:=by
 obtain⟨D,k,⟨es,clock,hb,r⟩,hk,hr⟩:=h
 exact⟨D,k,⟨es,clock,e.trans hb,r⟩,hk,hr⟩
theorem EP(w:World):(zeroValue 178).run Tryz.prog w= .ok (.pointer none) w:=by kernel_rfl
theorem Vf{w:World}{b c:Nat}{P:Pt}(h:bg w b P c){y:Int}(hy:I64 y){x:Option Nat}(hx:P y=x):(Instr.lookup 202 (.map (some b)) (.int .i64 y) true).run Tryz.prog w= .ok (.tuple #[Aa x, .bool x.isSome]) w:=by
 obtain⟨D,k,hown,_,hr,_⟩:=h
 obtain⟨v,ps,hrun,hv⟩:=hown.look_ok qA Tryz.underlying202 (EP w) (zd:= .lit (.int .i64 (-1))) (zp:=[]) rfl (gJ y hy)
 rw[hr.at_ y,hx]at hv
 rw[hr.Ea y,hx,jP hv]at hrun
 exact hrun
theorem OY{w:World}{b c:Nat}{P:Pt}(h:bg w b P c){y:Int}(hy:I64 y)(hx:P y=none):(Instr.lookup 202 (.map (some b)) (.int .i64 y) true).run Tryz.prog w= .ok (.tuple #[.pointer none, .bool false]) w:=Vf h hy hx
theorem Pf{w:World}{b c:Nat}{P:Pt}(h:bg w b P c){y:Int}(hy:I64 y){p:Nat}(hx:P y=some p):(Instr.lookup 202 (.map (some b)) (.int .i64 y) true).run Tryz.prog w= .ok (.tuple #[.pointer (some ⟨p,0,none⟩), .bool true]) w:=Vf h hy hx
theorem JF{w:World}{b c:Nat}{P:Pt}(h:bg w b P c){y:Int}(hy:I64 y){x:Option Nat}(hx:P y=x):(Instr.lookup 202 (.map (some b)) (.int .i64 y) false).run Tryz.prog w= .ok (Aa x) w:=by
 obtain⟨D,k,hown,_,hr,_⟩:=h
 obtain⟨v,ps,hrun,hv⟩:=hown.lookup qA Tryz.underlying202 (EP w) (zd:= .lit (.int .i64 (-1))) (zp:=[]) rfl (gJ y hy)
 rw[hr.at_ y,hx]at hv
 rw[jP hv]at hrun
 exact hrun
theorem Rs{w:World}{b c:Nat}{P:Pt}(h:bg w b P c){y:Int}(hy:I64 y)(hx:P y=none):(Instr.lookup 202 (.map (some b)) (.int .i64 y) false).run Tryz.prog w= .ok (.pointer none) w:=JF h hy hx
theorem Rt{w:World}{b c:Nat}{P:Pt}(h:bg w b P c){y:Int}(hy:I64 y){p:Nat}(hx:P y=some p):(Instr.lookup 202 (.map (some b)) (.int .i64 y) false).run Tryz.prog w= .ok (.pointer (some ⟨p,0,none⟩)) w:=JF h hy hx
theorem Vg{w:World}{b c:Nat}{P:Pt}(h:bg w b P c)(ty:TypeId):(Builtin.len_ #[202] ty #[.map (some b)]).run Tryz.prog w= .ok (.int .i64 (c:Int)) w:=by
 obtain⟨D,k,hown,_,_,rfl⟩:=h
 exact hown.len Tryz.underlying202 ty
theorem bg.M8{D:DataW Unit}{P:Pt}{c:Nat}(hr:kE D P)(hc:Maps.size D=c){y:Int}(hn:P y=none)(d:DataW Unit):Maps.size (D.put (.int .i64 y) d)=c+1:=by
 rw[size_put hr.frames.tidy,hr.Ea y,hn,hc];rfl
theorem bg.M9{D:DataW Unit}{P:Pt}{c:Nat}(hr:kE D P)(hc:Maps.size D=c+1){y:Int}{p:Nat}(hn:P y=some p):Maps.size (D.del (.int .i64 y))=c:=by
 have:=size_del hr.frames.tidy (k:= .int .i64 y)
 rw[hr.Ea y,hn,hc]at this
 simp at this
 exact this
section
variable (w:World) {ops:Array Oper} {rest:List Oper} {o:Oper} {a:Act} {Q:Exit→Act→World→Prop}
theorem Ab(hg:o.guard=none)(m x v:Operand)(hop:o.op=Op.mapUpdate 202 m x v)(b k:Nat)(P:Pt)(hm:a.eval m= .map (some b))(h:bg w b P k)(y:Int)(hx:a.eval x= .int .i64 y)(hy:1≤y∧y≤8)(hn:P y=none)(c:Nat)(hv:a.eval v= .pointer (some ⟨c,0,none⟩))
  (hK:∀w',bg w' b (gX P y (some c)) (k+1)→w.grownBy w' (some b)→wpList Tryz.prog ops Q rest (a.put o.dst undef) w'):wpList Tryz.prog ops Q (o::rest) a w:=by
 obtain⟨D,kk,hown,hk,hr,hs⟩:=h
 refine wpList_mapUpdate_own _ hg m x v 202 hop 3 178 qA Tryz.underlying202 _ b kk D hm hown (by unfold maxLen;omega) (.int .i64 y) (.pointer (some ⟨c,0,none⟩)) (.int .i64 y) hx hv (gJ _ (by omega)) (.lit (.int .i64 (UE (some c)))) [] (vo (some c)) fun w' h1 h2=>?_
 have hr':=hr.put y hy (some c) rfl
 exact hK w' ⟨_,1024,xP h1 1024 hr'.frames.size,Nat.le_refl _,hr',bg.M8 hr hs hn _⟩ h2
theorem vE{F:Fence}{n:Nat}(hg:o.guard=none)(m x:Operand)(hop:o.op=Op.call { callee:=Callee.builtin Builtin.delete,args:=#[m,x],argTypes:=#[202,3] })(b k:Nat)(P:Pt)(hm:a.eval m= .map (some b))(h:bg w b P (k+1))(y:Int)(hx:a.eval x= .int .i64 y)(hy:1≤y∧y≤8)(p:Nat)(hp:P y=some p)
  (hK:∀w',bg w' b (gX P y none) k→w.grownBy w' (some b)→wpListIn F n Tryz.prog ops Q rest (a.put o.dst (.tuple #[])) w'):wpListIn F n Tryz.prog ops Q (o::rest) a w:=by
 obtain⟨D,kk,hown,hk,hr,hs⟩:=h
 refine wpListIn_delete_own _ hg m x 202 3 hop 178 qA Tryz.underlying202 _ b kk D hm hown (.int .i64 y) (.int .i64 y) hx (gJ _ (by omega)) fun w' h1 h2=>?_
 exact hK w' ⟨_,kk,h1,hk,hr.del y,bg.M9 hr hs hp⟩ h2.grown
end
def DT(p:Nd):Obj:= .cells #[.int .i64 p.1, .int .i64 p.2.1, .int .i64 p.2.2.1, .int .u32 p.2.2.2] 76 (0,0)
def Zl(n:Int)(m:Nat):Obj:= .cells #[.int .i64 n, .map (some m)] 204 (0,0)
theorem bG{w:World}{p:Nat}{x:Nd}(h:w.heap[p]? =some (DT x)):w.cell? ⟨p,0,none⟩=some (.int .i64 x.1)∧w.cell? ⟨p,1,none⟩=some (.int .i64 x.2.1)∧w.cell? ⟨p,2,none⟩=some (.int .i64 x.2.2.1)∧w.cell? ⟨p,3,none⟩=some (.int .u32 x.2.2.2)∧(∀i,w.frozen? ⟨p,i,none⟩=false):=D9 h
structure TabAt(w:World)(b m:Nat)(n:Int)(P:Pt)(L:List Nd):Prop where
 box:w.heap[b]? =some (Zl n m)
 map:bg w m P L.length
 out:∀id,aD id L=none→P id=none
 inn:∀id x,aD id L=some x→∃p,P id=some p∧w.heap[p]? =some (DT x)
 good:aL n L
theorem TabAt.c0{w:World}{b m:Nat}{n:Int}{P:Pt}{L:List Nd}(h:TabAt w b m n P L):w.cell? ⟨b,0,none⟩=some (.int .i64 n):=by rw[cell_of_row w b 0 _ _ _ h.box];rfl
theorem TabAt.c1{w:World}{b m:Nat}{n:Int}{P:Pt}{L:List Nd}(h:TabAt w b m n P L):w.cell? ⟨b,1,none⟩=some (.map (some m)):=by rw[cell_of_row w b 1 _ _ _ h.box];rfl
theorem TabAt.proc{w:World}{b m:Nat}{n:Int}{P:Pt}{L:List Nd}(h:TabAt w b m n P L){id:Int}{p:Nat}(hp:P id=some p):∃x,aD id L=some x∧w.heap[p]? =some (DT x):=by
 cases e:aD id L with
 |none=>rw[h.out id e]at hp;cases hp
 |some x=>
  obtain⟨p',h1,h2⟩:=h.inn id x e
  rw[h1]at hp
  cases hp
  exact⟨x,rfl,h2⟩
theorem TabAt.none_{w:World}{b m:Nat}{n:Int}{P:Pt}{L:List Nd}(h:TabAt w b m n P L){id:Int}(hp:P id=none):aD id L=none:=by
 cases e:aD id L with
 |none=>rfl
 |some x=>
  obtain⟨p',h1,h2⟩:=h.inn id x e
  rw[h1]at hp
  cases hp
def tB(m:Nat)(P:Pt)(k:Nat):Prop:=k=m∨∃id,P id=some k
theorem TabAt.lt{w:World}{b m:Nat}{n:Int}{P:Pt}{L:List Nd}(h:TabAt w b m n P L){k:Nat}(hk:tB m P k):k<w.heap.size:=by
 rcases hk with rfl|⟨id,hp⟩
 ·exact h.map.lt
 ·obtain⟨x,_,h2⟩:=h.proc hp
  exact lt_of_block h2
theorem TabAt.vv{w:World}{b m:Nat}{n:Int}{P:Pt}{L:List Nd}(h:TabAt w b m n P L):¬tB m P b:=by
 rintro(e|⟨id,hp⟩)
 ·obtain⟨es,ck,hm⟩:=h.map.isMap
  have:=h.box
  rw[e,hm]at this
  cases this
 ·obtain⟨x,_,h2⟩:=h.proc hp
  have:=h.box
  rw[h2]at this
  exact absurd (show(some 76:Option Nat)=some 204 from congrArg kindOf (Option.some.inj this)) (by decide)
theorem TabAt.kF{w:World}{b m:Nat}{n:Int}{P:Pt}{L:List Nd}(h:TabAt w b m n P L)(id:Int):P id≠some m:=fun hp=>by
 obtain⟨x,_,h2⟩:=h.proc hp
 obtain⟨es,ck,hm⟩:=h.map.isMap
 rw[hm]at h2
 cases h2
theorem TabAt.inj{w:World}{b m:Nat}{n:Int}{P:Pt}{L:List Nd}(h:TabAt w b m n P L){i j:Int}{p:Nat}(h1:P i=some p)(h2:P j=some p):i=j:=by
 obtain⟨x,a1,a2⟩:=h.proc h1
 obtain⟨y,b1,b2⟩:=h.proc h2
 have hi:=(aj a1).2
 have hj:=(aj b1).2
 rw[a2]at b2
 simp only[DT,Option.some.injEq,Obj.cells.injEq,and_true]at b2
 have:=congrArg (fun c:Array Value=>c[0]?) b2
 simp at this
 omega
theorem TabAt.kept{w w':World}{b m:Nat}{n:Int}{P:Pt}{L:List Nd}(h:TabAt w b m n P L)(h0:w'.heap[b]? =w.heap[b]?)(hk:∀k,tB m P k→w'.heap[k]? =w.heap[k]?):TabAt w' b m n P L:=
 ⟨h0.trans h.box,h.map.same (hk m (Or.inl rfl)),h.out,fun id x e=>by
  obtain⟨p,h1,h2⟩:=h.inn id x e
  exact⟨p,h1,(hk p (Or.inr ⟨id,h1⟩)).trans h2⟩,h.good⟩
theorem TabAt.step{w w':World}{b m:Nat}{n:Int}{P:Pt}{L:List Nd}(h:TabAt w b m n P L){B:Nat}(hb:Below B w w')(hB:∀k,(k=b∨tB m P k)→k<B):TabAt w' b m n P L:=
 h.kept (hb.block _ (hB _ (Or.inl rfl))) (fun k hk=>hb.block _ (hB k (Or.inr hk)))
theorem TabAt.later{w w':World}{b m:Nat}{n:Int}{P:Pt}{L:List Nd}(h:TabAt w b m n P L)(hb:Below w.heap.size w w'):TabAt w' b m n P L:=
 h.step hb fun _ hk=>hk.elim (fun e=>e▸lt_of_block h.box) h.lt
def Bp(B b m:Nat)(P:Pt):Prop:=∀k,(k=b∨tB m P k)→k<B
theorem TabAt.low{w:World}{b m:Nat}{n:Int}{P:Pt}{L:List Nd}(h:TabAt w b m n P L):Bp w.heap.size b m P:=fun _ hk=>hk.elim (fun e=>e▸lt_of_block h.box) h.lt
theorem TabAt.turn{w w':World}{b m:Nat}{n:Int}{P:Pt}{L L':List Nd}(h:TabAt w b m n P L){j:Int}{p:Nat}{x':Nd}(hp:P j=some p)(hw:w'.heap[p]? =some (DT x'))(hg:∀k,k<w.heap.size→k≠p→w'.heap[k]? =w.heap[k]?)(h1:aD j L'=some x')(h2:∀i,i≠j→aD i L'=aD i L)(h3:aL n L')(h4:L'.length=L.length):TabAt w' b m n P L':=by
 refine⟨(hg _ (lt_of_block h.box) (fun e=>h.vv (Or.inr ⟨j,by rw[hp,e]⟩))).trans h.box,(h4▸h.map.same (hg _ h.map.lt (fun e=>h.kF j (by rw[hp,e])))),fun i e=>?_,fun i x e=>?_,h3⟩
 ·by_cases hi:i=j
  ·subst hi;rw[h1]at e;cases e
  ·rw[h2 i hi]at e
   exact h.out i e
 ·by_cases hi:i=j
  ·subst hi
   rw[h1]at e
   cases e
   exact⟨p,hp,hw⟩
  ·rw[h2 i hi]at e
   obtain⟨p',hp',hpn⟩:=h.inn i x e
   exact⟨p',hp',(hg _ (lt_of_block hpn) (fun e2=>hi (h.inj hp' (by rw[hp,e2])))).trans hpn⟩
theorem TabAt.drop{w w':World}{b m:Nat}{n:Int}{P:Pt}{L:List Nd}(h:TabAt w b m n P L){j:Int}{p:Nat}(hp:P j=some p){c:Nat}(hm:bg w' m (gX P j none) c)(hg:w.grownBy w' (some m))(hc:c=(fT j L).length):TabAt w' b m n (gX P j none) (fT j L):=by
 refine⟨(hg.block _ (lt_of_block h.box) (fun e=>h.vv (Or.inl (Option.some.inj e)))).trans h.box,hc▸hm,fun i e=>?_,fun i x e=>?_,h.good.del j⟩
 ·by_cases hi:i=j
  ·subst hi;exact fU _ _ _
  ·rw[bZ _ _ _ hi]
   rw[iG,if_neg hi]at e
   exact h.out i e
 ·by_cases hi:i=j
  ·rw[iG,if_pos hi]at e;cases e
  ·rw[iG,if_neg hi]at e
   rw[bZ _ _ _ hi]
   obtain⟨p',hp',hpn⟩:=h.inn i x e
   exact⟨p',hp',(hg.block _ (lt_of_block hpn) (fun e2=>h.kF i (by rw[hp',Option.some.inj e2]))).trans hpn⟩
theorem TabAt.put{w w':World}{b m:Nat}{n:Int}{P:Pt}{L:List Nd}(h:TabAt w b m n P L){x:Nd}{q:Nat}(hno:∀p∈L,p.1≠x.1)(hx:okY n x)(h1:bg w' m (gX P x.1 (some q)) (L.length+1))(h2:w'.heap[q]? =some (DT x))(h3:w.grownBy w' (some m)):TabAt w' b m n (gX P x.1 (some q)) (jF x L):=by
 refine⟨(h3.block _ (lt_of_block h.box) (fun e=>h.vv (Or.inl (Option.some.inj e)))).trans h.box,(zx x L).symm▸h1,fun i e=>?_,fun i y e=>?_,h.good.ins hx hno⟩
 ·rw[ji hno]at e
  split at e
  ·cases e
  ·rename_i hne
   rw[bZ _ _ _ hne]
   exact h.out i e
 ·rw[ji hno]at e
  split at e
  ·rename_i he
   cases e
   exact⟨q,by rw[he];exact fU _ _ _,h2⟩
  ·rename_i hne
   obtain⟨p,hp,hpn⟩:=h.inn i y e
   exact⟨p,by rw[bZ _ _ _ hne];exact hp,(h3.block _ (lt_of_block hpn) (fun e=>h.kF i (by rw[hp,Option.some.inj e]))).trans hpn⟩
end Go.Proofs.YtammlljefhakmaaGreatDoor
namespace Go.Proofs.YtammlljefhakmaaGreatDoor
open Go.RowKit Go.Maps
set_option maxRecDepth 100000
def JG(w:World)(p:Option Addr):Prop:=p=none∨∃b,p=some ⟨b,0,none⟩∧w.cell? ⟨b,1,none⟩=some (.map none)
theorem zy(p:Option Addr)(w:World)(h:JG w p):Calls Tryz.prog 118 #[.pointer p] w fun e w'=>e= .returned (.bool false)∧w=w':=by
 have hm:=run_neq_map_nil (P:=Tryz.prog) w 202 3 178 none Tryz.underlying202
 rcases h with rfl|⟨b,rfl,hc⟩
 all_goals
  go_enter Tryz.func118,Tryz.ntmps118
  go_wp2
  go_ret
  exact⟨rfl,rfl⟩
theorem sI(b m:Nat)(w:World)(hc:w.cell? ⟨b,1,none⟩=some (.map (some m))):Calls Tryz.prog 118 #[.pointer (some ⟨b,0,none⟩)] w fun e w'=>e= .returned (.bool true)∧w=w':=by
 have hm:=run_neq_map_nil (P:=Tryz.prog) w 202 3 178 (some m) Tryz.underlying202
 go_enter Tryz.func118,Tryz.ntmps118
 go_wp2
 go_ret
 exact⟨rfl,rfl⟩
theorem JH(p:Option Addr)(pid:Int)(w:World)(h:JG w p):Calls Tryz.prog 106 #[.pointer p, .int .i64 pid] w fun e w'=>e= .returned (.tuple #[.pointer none, .int .i64 1])∧w=w':=by
 go_enter Tryz.func106,Tryz.ntmps106
 go_wp2_with fail
 refine(zy p w h).mono ?_
 rintro e w' ⟨rfl,rfl⟩
 go_wp2
 go_ret2
 exact⟨rfl,rfl⟩
theorem qE{b m:Nat}{n:Int}{P:Pt}{L:List Nd}{w:World}(h:TabAt w b m n P L){pid:Int}(hi:I64 pid)(hp:P pid=none):Calls Tryz.prog 106 #[.pointer (some ⟨b,0,none⟩), .int .i64 pid] w fun e w'=>e= .returned (.tuple #[.pointer none, .int .i64 4])∧w=w':=by
 have c1:=h.c1
 have hl:=OY h.map hi hp
 have H:=Lib.hid h
 clear h hp hi
 go_enter Tryz.func106,Tryz.ntmps106
 go_wp2_with fail
 refine(sI b m w H.out.c1).mono ?_
 rintro e w' ⟨rfl,rfl⟩
 go_wp2
 go_ret2
 exact⟨rfl,rfl⟩
theorem fM{b m:Nat}{n:Int}{P:Pt}{L:List Nd}{w:World}(h:TabAt w b m n P L){pid:Int}(hi:I64 pid){p:Nat}(hp:P pid=some p):Calls Tryz.prog 106 #[.pointer (some ⟨b,0,none⟩), .int .i64 pid] w fun e w'=>e= .returned (.tuple #[.pointer (some ⟨p,0,none⟩), .int .i64 0])∧w=w':=by
 have c1:=h.c1
 have hl:=Pf h.map hi hp
 have H:=Lib.hid h
 clear h hp hi
 go_enter Tryz.func106,Tryz.ntmps106
 go_wp2_with fail
 refine(sI b m w H.out.c1).mono ?_
 rintro e w' ⟨rfl,rfl⟩
 go_wp2
 go_ret2
 exact⟨rfl,rfl⟩
set_option maxHeartbeats 1000000 in
theorem JI(b m k:Nat)(P:Pt)(pid parent:Int)(w:World)(hc:w.cell? ⟨b,1,none⟩=some (.map (some m)))(hp:bg w m P k)(hid:1≤pid∧pid≤8)(hn:P pid=none):
  Calls Tryz.prog 125 #[.pointer (some ⟨b,0,none⟩), .int .i64 pid, .int .i64 parent] w fun e w'=>e= .returned (.tuple #[])∧bg w' m (gX P pid (some w.heap.size)) (k+1)∧w'.heap[w.heap.size]? =some (DT (pid,parent,1,0))∧w.grownBy w' (some m):=by
 have hml:=hp.lt
 obtain⟨w1,hw1⟩:∃w1,w1=w.alloc (.cells #[.int .i64 pid, .int .i64 parent, .int .i64 1, .int .u32 0] 76):=⟨_,rfl⟩
 have B1:Hid (Below w.heap.size w w1):=Lib.hid (by rw[hw1];exact(Below.refl _ _).alloc (Nat.le_refl _) _)
 have N1:Hid (w1.heap[w.heap.size]? =some (DT (pid,parent,1,0))):=Lib.hid (by rw[hw1];exact heap_alloc_new w _)
 have P1:Hid (bg w1 m P k):=Lib.hid (hp.same (B1.out.block m hml))
 rw[hw1]at P1
 have E1:=Lib.hid hw1
 have HN:=Lib.hid hn
 clear hp hw1 hn
 go_enter Tryz.func125,Tryz.ntmps125
 go_wp2_with(refine Ab _ rfl (.tmp 9) (.tmp 10) (.tmp 14) rfl m k P rfl P1.out pid rfl hid HN.out w.heap.size rfl ?_;intro w2 hp2 hg2;have P2:=Lib.hid hp2;have G2:=Lib.hid hg2;clear hp2 hg2)
 go_end0
 have hg:w1.grownBy w2 (some m):=by rw[E1.out];exact G2.out
 exact⟨rfl,P2.out,(hg.block _ (lt_of_block N1.out) (fun e=>by have:=Option.some.inj e;omega)).trans N1.out,grownBy_trans (aP B1.out _) hg⟩
structure Ru(w w':World)(b m:Nat)(n:Int)(P:Pt)(L':List Nd):Prop where
 ex:∃P',TabAt w' b m n P' L'∧∀id p,P' id=some p→P id=some p∨w.heap.size≤p
 only:Only w w' (tB m P)
theorem Ru.stay{w w':World}{b m:Nat}{n:Int}{P:Pt}{L:List Nd}(h:TabAt w b m n P L)(hb:Below w.heap.size w w'):Ru w w' b m n P L:=
 ⟨⟨P,h.later hb,fun _ _ e=>Or.inl e⟩,Only.below hb⟩
structure aeI(n:Int)(W:World)(e:Ending)(w:World):Prop where
 ex:∃b m P,e= .returned (.tuple #[.pointer (some ⟨b,0,none⟩), .int .i64 0])∧TabAt w b m n P [(1,0,1,0)]∧W.heap.size≤b∧(∀k,tB m P k→W.heap.size≤k)
 below:Below W.heap.size W w
theorem Vh(n:Int)(w:World)(h:¬(1≤n∧n≤8)):Calls Tryz.prog 70 #[.int .i64 n] w fun e w'=>e= .returned (.tuple #[.pointer none, .int .i64 2])∧w=w':=by
 by_cases h1:n<1
 ·go_enter Tryz.func70,Tryz.ntmps70
  go_wp2
  go_ret2
  exact⟨rfl,rfl⟩
 ·have h2:8<n:=by omega
  go_enter Tryz.func70,Tryz.ntmps70
  go_wp2
  go_ret2
  exact⟨rfl,rfl⟩
theorem aL.nil{n:Int}(h:1≤n∧n≤8):aL n []:=⟨h,by simp,by simp⟩
set_option maxHeartbeats 1000000 in
theorem Pg(n:Int)(w:World)(h:1≤n∧n≤8):Calls Tryz.prog 70 #[.int .i64 n] w (aeI n w):=by
 obtain⟨w1,hw1⟩:∃w1,w1=(w.alloc (.map #[] 0)).alloc (.cells #[.int .i64 n, .map (some w.heap.size)] 204):=⟨_,rfl⟩
 have B1:Hid (Below w.heap.size w w1):=Lib.hid (by rw[hw1];exact ak _ _ _)
 have H1:Hid (TabAt w1 (w.heap.size+1) w.heap.size n (fun _=>none) []):=Lib.hid (by
  rw[hw1]
  exact⟨heap_alloc2_new _ _ _,(bg.made w).same (((Below.refl _ _).alloc (Nat.le_refl _) _).block _ (by simp)),fun _ _=>rfl,fun i x e=>(by simp[aD]at e),aL.nil h⟩)
 have h1:=h.1
 have h2:=h.2
 have HN:=Lib.hid h
 have hmm:=@run_makeMap Tryz.prog
 clear h
 go_enter Tryz.func70,Tryz.ntmps70
 go_wp2_with fail
 rw[←hw1]
 clear hw1
 refine(JI _ _ _ _ 1 0 w1 H1.out.c1 H1.out.map (by decide) rfl).mono ?_
 rintro e w2 ⟨rfl,t1,t2,t3⟩
 have T:=Lib.hid (H1.out.put (x:=(1,0,1,0)) (by simp) ⟨⟨by decide,HN.out.1⟩,by decide,by decide,by decide⟩ t1 t2 t3)
 have G:=Lib.hid t3
 have Z:=Lib.hid B1.out.size
 clear t1 t2 t3
 go_wp2
 go_ret2
 refine⟨⟨_,_,_,rfl,T.out,by omega,fun k hk=>?_⟩,Only.old (B:=fun k=>k=w.heap.size) B1.out (Only.grown G.out rfl) Z.out (fun k hk=>by omega)⟩
 rcases hk with rfl|⟨i,hi⟩
 ·exact Nat.le_refl _
 ·unfold gX at hi
  split at hi
  ·cases hi;exact Z.out
  ·cases hi
def prV(x:Nd):Value:= .agg #[.int .i64 x.1, .int .i64 x.2.1, .int .i64 x.2.2.1, .int .u32 x.2.2.2]
set_option maxHeartbeats 1000000 in
theorem Zm{b m:Nat}{n:Int}{P:Pt}{L:List Nd}{w:World}(h:TabAt w b m n P L){pid:Int}(hi:I64 pid):Calls Tryz.prog 102 #[.pointer (some ⟨b,0,none⟩), .int .i64 pid] w fun e w'=>e= .returned (.tuple #[prV (JE L pid), .bool (aD pid L).isSome])∧Below w.heap.size w w':=by
 obtain⟨w1,hw1⟩:∃w1,w1=w.alloc (.cells #[.int .i64 0, .int .i64 0, .int .i64 0, .int .u32 0] 76):=⟨_,rfl⟩
 have B1:Hid (Below w.heap.size w w1):=Lib.hid (by rw[hw1];exact(Below.refl _ _).alloc (Nat.le_refl _) _)
 have H:=Lib.hid (h.later B1.out)
 cases hp:P pid with
 | none=>
  have e0:=h.none_ hp
  have HP:=Lib.hid hp
  have E0:=Lib.hid e0
  clear h hp e0
  go_enter Tryz.func102,Tryz.ntmps102
  go_wp2_with fail
  rw[←hw1]
  refine(qE H.out hi HP.out).mono ?_
  rintro e w' ⟨rfl,rfl⟩
  rw[hw1]
  go_wp2
  refine⟨rfl,_,?_,(by unfold JE;rw[E0.out]),?_⟩
  ·simp[results,Tryz.results102,go_sem]
   rfl
  ·exact(Below.refl _ _).alloc (Nat.le_refl _) _
 | some p=>
  obtain⟨x,e0,hx⟩:=h.proc hp
  have hpl:p<w.heap.size:=lt_of_block hx
  obtain⟨x1,x2,x3,x4⟩:=x
  obtain⟨a0,a1,a2,a3, -⟩:=bG hx
  have HP:=Lib.hid hp
  have E0:=Lib.hid e0
  clear h hp e0 hx
  go_enter Tryz.func102,Tryz.ntmps102
  go_wp2_with fail
  rw[←hw1]
  refine(fM H.out hi HP.out).mono ?_
  rintro e w' ⟨rfl,rfl⟩
  rw[hw1]
  go_wp2
  refine⟨rfl,_,?_,(by unfold JE;rw[E0.out]),?_⟩
  ·simp[results,Tryz.results102,go_sem]
   rfl
  ·exact(Below.refl _ _).alloc (Nat.le_refl _) _
theorem Na(p:Option Addr)(w:World):Calls Tryz.prog 119 #[.pointer p] w fun e w'=>e= .returned (.func (.func 174) #[] #[.pointer (some ⟨w.heap.size,0,none⟩)])∧w'=w.alloc (.cells #[.pointer p] 31):=by
 have pE:∀(fn:Fn) (first cap:Array Value) (w:World),(Instr.makeFunc fn first cap).run Tryz.prog w= .ok (.func fn first cap) w:=fun _ _ _ _=>rfl
 go_enter Tryz.func119,Tryz.ntmps119
 go_wp2
 go_ret
 exact⟨rfl,rfl⟩
theorem Rv(p:Option Addr)(w:World):Calls Tryz.prog 168 #[.pointer p] w fun e w'=>e= .returned (.func (.func 216) #[] #[.pointer (some ⟨w.heap.size,0,none⟩)])∧w'=w.alloc (.cells #[.pointer p] 31):=by
 have pE:∀(fn:Fn) (first cap:Array Value) (w:World),(Instr.makeFunc fn first cap).run Tryz.prog w= .ok (.func fn first cap) w:=fun _ _ _ _=>rfl
 go_enter Tryz.func168,Tryz.ntmps168
 go_wp2
 go_ret
 exact⟨rfl,rfl⟩
theorem sJ(p q:Option Addr)(w:World):Calls Tryz.prog 107 #[.pointer p, .pointer q] w fun e w'=>e= .returned (.func (.func 167) #[] #[.pointer (some ⟨w.heap.size,0,none⟩), .pointer (some ⟨w.heap.size+1,0,none⟩)])∧w'=(w.alloc (.cells #[.pointer p] 31)).alloc (.cells #[.pointer q] 178):=by
 have pE:∀(fn:Fn) (first cap:Array Value) (w:World),(Instr.makeFunc fn first cap).run Tryz.prog w= .ok (.func fn first cap) w:=fun _ _ _ _=>rfl
 go_enter Tryz.func107,Tryz.ntmps107
 go_wp2
 go_ret
 exact⟨rfl,rfl⟩
end Go.Proofs.YtammlljefhakmaaGreatDoor
namespace Go.Proofs.YtammlljefhakmaaGreatDoor
open Go.RowKit Go.Shelf Go.Maps
attribute [local go_sem] Oper.semAt_some
set_option maxRecDepth 100000
abbrev JJ:=Int×Pt×List Nd
def Ef(p:Nat):Array Value:=#[.pointer (some ⟨p,0,none⟩)]
def Vi(b m:Nat)(n:Int):Way JJ Nat where
 At s V:=TabAt V b m n s.2.1 s.2.2
 S s p:=(1≤s.1∧s.1≤n)∧s.2.1 s.1=some p
 Nx s s':=s'.1=s.1+1
 Ps s s':=(s'.1=s.1+1∧s'.2=s.2)∧(1≤s.1∧s.1≤n)∧s.2.1 s.1=none
 Start s:=s.1=1
 Fin s:=s.1=n+1
def mX(b:Nat):Obj:= .cells #[.pointer (some ⟨b,0,none⟩)] 31 (0,0)
structure H7(W:World)(b m bt:Nat)(n:Int)(J:JJ→World→Prop)(s:JJ)(wr:World):Prop where
 le:1≤s.1∧s.1≤n+1
 told:J s wr
 size:W.heap.size≤wr.heap.size
 box:wr.heap[bt]? =some (mX b)
 tab:TabAt wr b m n s.2.1 s.2.2
set_option maxHeartbeats 4000000 in
theorem Vj(T:TypeId)(b m bt:Nat)(n:Int)(w:World)(hbt:w.heap[bt]? =some (mX b)):
  Zk T Tryz.prog 174 #[.pointer (some ⟨bt,0,none⟩)] Ef (Vi b m n) (fun k=>k=bt) w:=by
 intro l J Jx W s0 hK hz hJ hJx hat hY hP hst h0
 have hb0:W.heap[bt]? =some (mX b):=(hK bt rfl).2.trans hbt
 have hbl:bt<W.heap.size:=lt_of_block hb0
 have R0:Hid (H7 W b m bt n J s0 W):=Lib.hid ⟨by
  have h1:=(hat _ _ h0:TabAt W b m n s0.2.1 s0.2.2).good.most
  have h2:s0.1=1:=hst
  omega,h0,Nat.le_refl _,hb0,hat _ _ h0⟩
 have HY:=Lib.hid hY
 have HPS:=Lib.hid hP
 have HAT:=Lib.hid hat
 have hs1:s0.1=1:=hst
 clear hbt hb0 hK hz hJ hJx hY hP hat h0 hst
 refine(callsIn_wide (n:=7)).1 ?_
 refine callsIn_of_wp Tryz.func174 rfl trivial ?_ rfl
 simp only[Tryz.ntmps174,List.size_toArray,List.length_cons,List.length_nil,Nat.reduceAdd,Nat.reduceSub,Array.replicate_succ,Array.replicate_zero,List.push_toArray,List.append_toArray,List.nil_append,List.cons_append]
 gi_wp2
 gi_loopw [3] (fun i wr=>∃s:JJ,i= .int .i64 s.1∧H7 W b m bt n J s wr) (fun i _=>(n+1-intOf i).toNat)
 case atStart=>exact⟨s0,by rw[hs1],R0.out⟩
 case round=>
  obtain⟨⟨j,P,L⟩,rfl,hR⟩:=hrel
  have RR:=Lib.hid hR
  have hj1:=hR.le.1
  have hj2:=hR.le.2
  have hn1:=hR.tab.good.most.1
  have hn2:=hR.tab.good.most.2
  have q0:wr.cell? ⟨bt,0,none⟩=some (.pointer (some ⟨b,0,none⟩)):=cell_of_one hR.box
  have q1:=hR.tab.c0
  have q2:=hR.tab.c1
  simp only at hj1 hj2
  clear hR hs1
  by_cases hlt:j≤n
  ·cases hp:P j with
   |none=>
    have hl:=OY RR.out.tab.map (y:=j) (by omega) hp
    have N1:=Lib.hid (HPS.out (j,P,L) (j+1,P,L) wr RR.out.told ⟨⟨rfl,rfl⟩,⟨hj1,hlt⟩,hp⟩)
    clear hp
    gi_wp2
    refine⟨fun _ h=>(by cases h),?_⟩
    gi_wp2
    go_roundw
    case rel=>exact⟨(j+1,P,L),by go_num,⟨by simp only;omega,by simp only;omega⟩,N1.out,RR.out.size,RR.out.box,RR.out.tab⟩
    case measure=>simp[intOf];omega
   | some p=>
    have hl:=Pf RR.out.tab.map (y:=j) (by omega) hp
    obtain⟨fn,tmps,assign,body,hy,hR⟩:=HY.out (j,P,L) p wr 6 RR.out.told RR.out.size ⟨⟨hj1,hlt⟩,hp⟩
    dsimp only[Ef]at hy
    have HR:=Lib.hid hR
    clear hp hR
    gi_wp2
    refine HR.out.mono ?_
    rintro e W3 ⟨hk,⟨rfl,⟨j',P',L'⟩,hj',hJ3⟩|⟨rfl,hJ3⟩⟩
    ·have hj3:j'=j+1:=hj'
     subst hj3
     have R3:Hid (H7 W b m bt n J (j+1,P',L') W3):=Lib.hid ⟨⟨by simp only;omega,by simp only;omega⟩,hJ3,Nat.le_trans RR.out.size hk.size,hk.same bt _ RR.out.box (Or.inl rfl),HAT.out _ _ hJ3⟩
     clear hk hJ3 hj'
     gi_wp2
     go_roundw
     case rel=>exact⟨(j+1,P',L'),by go_num,R3.out⟩
     case measure=>simp[intOf];omega
    ·gi_wp2
     refine bodyPost_ret (results_none rfl _ _ _) rfl ?_
     exact⟨⟨_,rfl⟩,Or.inr hJ3⟩
  ·obtain rfl:j=n+1:=by omega
   clear hlt
   gi_wp2
   go_end0
   exact⟨⟨_,rfl⟩,Or.inl ⟨(n+1,P,L),(rfl:n+1=n+1),RR.out.told⟩⟩
end Go.Proofs.YtammlljefhakmaaGreatDoor
namespace Go.Proofs.YtammlljefhakmaaGreatDoor
open Go.RowKit Go.Shelf Go.Maps
attribute [local go_sem] Oper.semAt_some
set_option maxRecDepth 100000
def H9(o:Nat):Obj:= .cells #[.pointer (some ⟨o,0,none⟩)] 178 (0,0)
def aeJ(b m:Nat)(n pid:Int)(o:Nat):Way JJ Nat where
 At s V:=TabAt V b m n s.2.1 s.2.2∧s.2.1 pid=some o
 S s p:=(1≤s.1∧s.1≤n)∧s.2.1 s.1=some p∧∃x,aD s.1 s.2.2=some x∧x.2.1=pid
 Nx s s':=s'.1=s.1+1
 Ps s s':=(s'.1=s.1+1∧s'.2=s.2)∧(1≤s.1∧s.1≤n)∧∀x,aD s.1 s.2.2=some x→x.2.1≠pid
 Start s:=s.1=1
 Fin s:=s.1=n+1
def ac8(l:Nat):Obj:= .cells #[.func (.yield l) #[] #[]] 195 (0,0)
structure zA(V:World)(W b b1 b2 o l:Nat):Prop where
 y:V.heap[W]? =some (ac8 l)
 t:V.heap[b1]? =some (mX b)
 p:V.heap[b2]? =some (H9 o)
 q:V.heap[W+1]? =some (mX b)
theorem zA.hangs{W b b1 b2 o l B:Nat}(h1:b1<B)(h2:b2<B)(hW:W+1<B):iH B (fun(_:JJ) V=>zA V W b b1 b2 o l):=fun _ _ _ h hb=>⟨(hb.block _ (by omega)).trans h.y,(hb.block _ h1).trans h.t,(hb.block _ h2).trans h.p,(hb.block _ hW).trans h.q⟩
abbrev Ia(T:TypeId):Prop:=T≠195∧T≠295∧T≠31
theorem zA.keep{T:TypeId}(hT:Ia T){V V':World}{W b b1 b2 o l B:Nat}(h:zA V W b b1 b2 o l)(hk:aW T (fun k=>k=b1∨k=b2) B V V')(hB:B≤W):zA V' W b b1 b2 o l:=
 ⟨hk.same _ _ h.y (Or.inr ⟨hB,fun e=>hT.1 (Option.some.inj e).symm⟩),hk.same _ _ h.t (Or.inl (Or.inl rfl)),hk.same _ _ h.p (Or.inl (Or.inr rfl)),hk.same _ _ h.q (Or.inr ⟨by omega,fun e=>hT.2.2 (Option.some.inj e).symm⟩)⟩
set_option maxHeartbeats 4000000 in
theorem vF{T:TypeId}(hT:Ia T)(b m b1 b2 o:Nat)(n pid:Int)(w:World)(h1:w.heap[b1]? =some (mX b))(h2:w.heap[b2]? =some (H9 o)):
  Zk T Tryz.prog 167 #[.pointer (some ⟨b1,0,none⟩), .pointer (some ⟨b2,0,none⟩)] Ef (aeJ b m n pid o) (fun k=>k=b1∨k=b2) w:=by
 intro l J Jx W s0 hK hz hJ hJx hat hY hP hst h0
 have t0:W.heap[b1]? =some (mX b):=(hK b1 (Or.inl rfl)).2.trans h1
 have p0:W.heap[b2]? =some (H9 o):=(hK b2 (Or.inr rfl)).2.trans h2
 have l1:b1<W.heap.size:=lt_of_block t0
 have l2:b2<W.heap.size:=lt_of_block p0
 have q0:=cell_of_one t0
 obtain⟨W1,hW1⟩:∃W1,W1=(W.alloc (.cells #[.func (.yield l) #[] #[]] 195)).alloc (.cells #[.pointer (some ⟨b,0,none⟩)] 31):=⟨_,rfl⟩
 have hB1:Below W.heap.size W W1:=by rw[hW1];exact ak W _ _
 have hz1:W1.heap.size=W.heap.size+2:=by rw[hW1];simp
 have T1:W1.heap[W.heap.size+1]? =some (mX b):=by rw[hW1];exact heap_alloc2_new W _ _
 have C1:zA W1 W.heap.size b b1 b2 o l:=⟨by rw[hW1];exact(Below.heap_alloc _ _ _ (by simp)).trans (heap_alloc_new W _),(hB1.block _ l1).trans t0,(hB1.block _ l2).trans p0,T1⟩
 have C1:=Lib.hid C1
 have T1:=Lib.hid T1
 have hmx:Tryz.prog.follows .mixedOrders=true:=by kernel_rfl
 refine(callsIn_wide (n:=12)).1 ?_
 refine callsIn_of_wp_marks Tryz.func167 rfl trivial ?_ rfl
 simp only[Tryz.ntmps167,List.size_toArray,List.length_cons,List.length_nil,Nat.reduceAdd,Nat.reduceSub,Array.replicate_succ,Array.replicate_zero,List.push_toArray,List.append_toArray,List.nil_append,List.cons_append]
 gi_wp2_with (refine⟨trivial,?_⟩;gi_at_call 119;refine(callsIn_wide.2 (Na _ _)).mono ?_;rintro e w' ⟨rfl,rfl⟩)
 rw[←hW1]
 clear hW1
 refine qC (gf:=174) (lb:=#[.pointer (some ⟨W.heap.size+1,0,none⟩)]) rfl (enters Tryz.func174 rfl rfl) (Vj T b m (W.heap.size+1) n W1 T1.out)
  (fun k hk=>⟨by omega,rfl⟩) (Nat.le_refl _) (by intro _;rfl)
  (fun s V=>J s V∧zA V W.heap.size b b1 b2 o l) (fun c V=>c= .ret∧Jx V)
  ((hJ.mono (by omega)).and (zA.hangs (by omega) (by omega) (by omega)).toT)
  (fun c V V' h hb=>⟨h.1,hJx () _ _ h.2 (hb.mono (by omega))⟩) (fun s V h=>(hat s V h.1).1)
  s0 hst ⟨hJ _ _ _ h0 (eX.of_below hB1 (Nat.le_refl _)),C1.out⟩
  (fun x a' _=>a'={ tmps:=#[.func (.yield l) #[] #[], .pointer (some ⟨b1,0,none⟩), .pointer (some ⟨b2,0,none⟩), .pointer (some ⟨W.heap.size,0,none⟩), .pointer (some ⟨x,0,none⟩), .pointer (some ⟨b,0,none⟩), .func (.func 174) #[] #[.pointer (some ⟨W.heap.size+1,0,none⟩)], .pointer (some ⟨x,0,none⟩),undef,undef,undef,undef,undef,undef,undef,undef,undef,undef,undef,undef,undef,undef,undef],defers:=[] })
  (fun _ _ _ _ _ _ hs _ _=>hs)
  ?assign ?body ?pass ?done ?stop
 case assign=>
  rintro l' s x V C ⟨hj,hc⟩ hzv hC
  dsimp only[Ef]
  gi_wp2
  exact hC _ _ (aW.refl _ _ _ _) ⟨hj,hc⟩ rfl
 case body=>
  rintro l' ⟨j,P,L⟩ p a' V ⟨hj,hc⟩ hzv ⟨hr,hp⟩ rfl
  obtain⟨htab,ho⟩:=hat _ _ hj
  simp only at htab ho hr hp
  obtain⟨x,hx,hpx⟩:=htab.proc hp
  obtain⟨y,hy1,hoy⟩:=htab.proc ho
  have hyp:y.1=pid:=(aj hy1).2
  obtain⟨a0,a1,a2,a3, -⟩:=bG hpx
  obtain⟨o0, -⟩:=bG hoy
  rw[hyp]at o0
  have e3:=cell_of_one hc.y
  have e2:=cell_of_one hc.p
  have WK:Hid (∀k ob,V.drew.heap[k]? =some ob→(k=W.heap.size+1∨(W1.heap.size≤k∧kindOf ob≠some T))→(W.heap.size≤k∧kindOf ob≠some T)):=Lib.hid (fun k ob Vk h=>by
   rcases h with rfl|h
   ·refine⟨by omega,fun e=>hT.2.2 ?_⟩
    have h2:some ob=some (mX b):=Vk.symm.trans hc.q
    cases h2
    exact(Option.some.inj e).symm
   ·exact⟨by omega,h.2⟩)
  have HC:=Lib.hid hc
  have HJ:=Lib.hid hj
  have HX:=Lib.hid hx
  by_cases hpp:x.2.1=pid
  ·have hb:(x.2.1==pid)=true:=by simpa using hpp
   obtain⟨fn,tmps,assign,body,hy,hR⟩:=hY (j,P,L) p V.drew 6 (hJ _ _ _ hj (eX.of_below (Below.refl _ _).drew (by omega))) (by show W.heap.size≤V.heap.size;omega) ⟨hr,hp,x,hx,hpp⟩
   dsimp only[Ef]at hy
   have HR:=Lib.hid hR
   clear hpx hoy htab hc hx hyp hy1 hpp hR
   generalize x.2.1=u at*
   gi_wp2
   refine sH 12 hmx (by kernel_rfl) (by rfl) ?_
   simp only[List.take_succ_cons,List.take_zero,List.drop_succ_cons,List.drop_zero]
   repeat still_step
   try refine wpStill_nil ?_
   gi_wp2
   refine(EN HR.out).mono ?_
   rintro e V3 ⟨hk,⟨rfl,s',hs',hJ3⟩|⟨rfl,hJ3⟩⟩
   ·gi_wp2
    exact⟨(aW.drew _ _ _ _).trans (hk.weak fun k ob Vk h=>Or.inr (WK.out k ob Vk h)),s',hs',hJ3,HC.out.keep hT ((aW.drew _ _ _ _).trans hk) (Nat.le_refl _)⟩
   ·gi_wp2
    exact⟨(aW.drew _ _ _ _).trans (hk.weak fun k ob Vk h=>Or.inr (WK.out k ob Vk h)),rfl,hJ3⟩
  ·have hb:(x.2.1==pid)=false:=by simpa using hpp
   have N1:=Lib.hid (hP (j,P,L) (j+1,P,L) V.drew (hJ _ _ _ hj (eX.of_below (Below.refl _ _).drew (by omega))) ⟨⟨rfl,rfl⟩,hr,fun x' hx'=>by simp only at hx';rw[hx]at hx';cases hx';exact hpp⟩)
   clear hpx hoy htab hc hx hyp hy1 hpp
   generalize x.2.1=u at*
   gi_wp2
   refine sH 12 hmx (by kernel_rfl) (by rfl) ?_
   simp only[List.take_succ_cons,List.take_zero,List.drop_succ_cons,List.drop_zero]
   repeat still_step
   try refine wpStill_nil ?_
   gi_wp2
   refine⟨fun _ h=>(by cases h),?_⟩
   gi_wp2
   exact⟨aW.drew _ _ _ _,(j+1,P,L),rfl,N1.out,HC.out.keep hT (aW.drew _ _ _ _) (Nat.le_refl _)⟩
 case pass=>
  rintro⟨j,P,L⟩ s' V ⟨hj,hc⟩ ⟨he,hr,hp⟩
  exact⟨hP _ _ _ hj ⟨he,hr,fun x hx=>by rw[(hat _ _ hj).1.none_ hp]at hx;cases hx⟩,hc⟩
 case done=>
  rintro D s V hD hf ⟨hj, -⟩ qx
  gi_wp2
  refine⟨by simp, .inl ⟨_,_,rfl,run_takeDeferred qx,?_⟩⟩
  exact⟨_,results_none rfl _ _ _,⟨_,rfl⟩,Or.inl ⟨s,hf,hJ _ _ _ hj (eX.put _ qx (by simp[kindOf]) (by omega))⟩⟩
 case stop=>
  rintro D c V hD ⟨rfl,hj⟩ qx
  gi_wp2
  refine⟨by simp, .inl ⟨_,_,rfl,run_takeDeferred qx,?_⟩⟩
  exact⟨_,results_none rfl _ _ _,⟨_,rfl⟩,Or.inr (hJx () _ _ hj (eX.put _ qx (by simp[kindOf]) (by omega)))⟩
end Go.Proofs.YtammlljefhakmaaGreatDoor
namespace Go.Proofs.YtammlljefhakmaaGreatDoor
open Go.RowKit Go.Shelf Go.Maps
attribute [local go_sem] Oper.semAt_some
set_option maxRecDepth 100000
theorem Vl{y:Nd}{r:List Nd}(h1:∀z∈r,y.1<z.1){i:Int}{x:Nd}(h:aD i r=some x):aD i (y::r)=some x:=by
 have h2:=aj h
 have:=h1 x h2.1
 unfold aD
 rw[if_neg (by omega)]
 exact h
theorem JK{pid:Int}:∀{L:List Nd} {x:Nd},L.Pairwise (fun a b=>a.1<b.1)→x∈L→x.2.1=pid→x.2.2.1=3→(∀i,i<x.1→∀y,aD i L=some y→¬(y.2.1=pid∧y.2.2.1=3))→rR pid L=some x
 | y::r,x,hp,hx,h1,h2,hn=>by
  obtain⟨h3,h4⟩:=List.pairwise_cons.1 hp
  unfold rR
  rcases List.mem_cons.1 hx with rfl|hx
  ·rw[List.find?_cons_of_pos (by simp[h1,h2])]
  ·have hlt:=h3 x hx
   have hy:=hn y.1 hlt y (by unfold aD;rw[if_pos rfl])
   rw[List.find?_cons_of_neg (by simpa using hy)]
   exact JK h4 hx h1 h2 (fun i hi z hz=>hn i hi z (Vl h3 hz))
theorem Rw{pid:Int}{L:List Nd}(h:∀y∈L,¬(y.2.1=pid∧y.2.2.1=3)):rR pid L=none:=by
 unfold rR
 rw[List.find?_eq_none]
 intro y hy
 simpa using h y hy
theorem Rx{pid:Int}{L:List Nd}{x:Nd}(hx:x∈L)(h:x.2.1=pid):mP pid L=true:=by
 unfold mP
 rw[List.any_eq_true]
 exact⟨x,hx,by simpa using h⟩
theorem Nb{pid:Int}{L:List Nd}(h:∀y∈L,y.2.1≠pid):mP pid L=false:=by
 unfold mP
 rw[List.any_eq_false]
 intro y hy
 simpa using h y hy
structure nI(w:World)(w2:Nat)(r:Obj)(P:Pt)(L:List Nd)(s:JJ)(V:World):Prop where
 eq:s.2=(P,L)
 gG:Below w.heap.size w V
 box:V.heap[w.heap.size]? =some r
 low:w.heap.size<w2
theorem nI.hangs(w:World)(w2:Nat)(r:Obj)(P:Pt)(L:List Nd){p:JJ→Prop}:iH w2 (fun s V=>nI w w2 r P L s V∧p s):=fun _ _ _ h hb=>
 ⟨⟨h.1.eq,h.1.gG.trans (hb.mono (by have:=h.1.low;omega)),(hb.block _ h.1.low).trans h.1.box,h.1.low⟩,h.2⟩
set_option maxHeartbeats 4000000 in
theorem qF{w:World}{b m:Nat}{n:Int}{P:Pt}{L:List Nd}(h:TabAt w b m n P L){pid:Int}{o:Nat}(ho:P pid=some o):
  Calls Tryz.prog 117 #[.pointer (some ⟨b,0,none⟩), .pointer (some ⟨o,0,none⟩)] w fun e w'=>e= .returned (.bool (mP pid L))∧Below w.heap.size w w':=by
 obtain⟨w1,hw1⟩:∃w1,w1=w.alloc (.cells #[.bool false] 4):=⟨_,rfl⟩
 have hz1:w1.heap.size=w.heap.size+1:=by rw[hw1];simp
 obtain⟨w2,hw2⟩:∃w2,w2=(w1.alloc (.cells #[.pointer (some ⟨b,0,none⟩)] 31)).alloc (.cells #[.pointer (some ⟨o,0,none⟩)] 178):=⟨_,rfl⟩
 have hz2:w2.heap.size=w.heap.size+3:=by rw[hw2];simp;omega
 have b1:Below w.heap.size w w1:=by rw[hw1];exact(Below.refl _ _).alloc (Nat.le_refl _) _
 have b2:Below w1.heap.size w1 w2:=by rw[hw2];exact ak _ _ _
 have r1:w1.heap[w.heap.size]? =some (.cells #[.bool false] 4 (0,0)):=by rw[hw1];exact heap_alloc_new _ _
 have x1:w2.heap[w1.heap.size]? =some (mX b):=by rw[hw2];exact heap_alloc2_old _ _ _
 have x2:w2.heap[w1.heap.size+1]? =some (H9 o):=by rw[hw2];exact heap_alloc2_new _ _ _
 have R2:Hid (nI w w2.heap.size (.cells #[.bool false] 4 (0,0)) P L (1,P,L) w2):=Lib.hid ⟨rfl,b1.trans (b2.mono (by omega)),(b2.block _ (by omega)).trans r1,by omega⟩
 rw[hz1]at x1 x2
 have X1:=Lib.hid x1
 have X2:=Lib.hid x2
 have H:=Lib.hid h
 have HO:=Lib.hid ho
 clear h ho b1 b2 r1 x1 x2
 refine(callsIn_wide (n:=14)).1 ?_
 refine callsIn_of_wp_marks Tryz.func117 rfl trivial ?_ rfl
 simp only[Tryz.ntmps117,List.size_toArray,List.length_cons,List.length_nil,Nat.reduceAdd,Nat.reduceSub,Array.replicate_succ,Array.replicate_zero,List.push_toArray,List.append_toArray,List.nil_append,List.cons_append]
 gi_wp2
 refine⟨trivial,?_⟩
 rw[←hw1]
 clear hw1
 refine(callsIn_wide.2 (sJ _ _ _)).mono ?_
 rintro e w' ⟨rfl,rfl⟩
 gi_wp2
 rw[←hw2]
 clear hw2
 refine qC (T:=0) (gf:=167) (lb:=#[.pointer (some ⟨w.heap.size+1,0,none⟩), .pointer (some ⟨w.heap.size+1+1,0,none⟩)]) rfl (enters Tryz.func167 rfl rfl) (vF (T:=0) (by decide) b m (w.heap.size+1) (w.heap.size+1+1) o n pid w2 X1.out X2.out)
  (fun k hk=>⟨by omega,rfl⟩) (Nat.le_refl _) (by intro _;rfl)
  (fun s V=>nI w w2.heap.size (.cells #[.bool false] 4 (0,0)) P L s V∧∀i,i<s.1→∀y,aD i L=some y→y.2.1≠pid)
  (fun c V=>nI w w2.heap.size (.cells #[.bool true] 4 (0,0)) P L (1,P,L) V∧c= .ret∧mP pid L=true)
  (nI.hangs _ _ _ _ _).toT (fun c V V' hh hb=>(nI.hangs w w2.heap.size _ P L (p:=fun _=>c= .ret∧mP pid L=true)) (1,P,L) V V' hh hb.gG)
  (fun s V hh=>by
   obtain⟨j,P',L'⟩:=s
   have e:=hh.1.eq
   simp only[Prod.mk.injEq]at e
   obtain⟨rfl,rfl⟩:=e
   exact⟨H.out.later hh.1.gG,HO.out⟩)
  (1,P,L) rfl ⟨R2.out,fun i hi y hy=>by have:=(H.out.good.at_ hy).1;simp only at hi;omega⟩
  (fun x a' _=>a'={ tmps:=#[.pointer (some ⟨b,0,none⟩), .pointer (some ⟨o,0,none⟩),undef,undef, .pointer (some ⟨w.heap.size,0,none⟩), .pointer (some ⟨b,0,none⟩), .pointer (some ⟨o,0,none⟩), .func (.func 167) #[] #[.pointer (some ⟨w.heap.size+1,0,none⟩), .pointer (some ⟨w.heap.size+1+1,0,none⟩)], .pointer (some ⟨x,0,none⟩)],defers:=[] })
  (fun _ _ _ _ _ _ hs _ _=>hs)
  ?assign ?body ?pass ?done ?stop
 case assign=>
  rintro l' s x V C hI hzv hC
  dsimp only[Ef]
  gi_wp2
  exact hC _ _ (aW.refl _ _ _ _) hI (by simp)
 case body=>
  rintro l' ⟨j,P',L'⟩ p a' V ⟨hR,hn⟩ hzv ⟨hr,hp,x,hx,hxp⟩ rfl
  have e:=hR.eq
  simp only[Prod.mk.injEq]at e
  obtain⟨rfl,rfl⟩:=e
  simp only at hx hn
  have hres:=hR.box
  have f0:=free_of_one hres
  have g0:=cell_of_one hres
  have R3:nI w w2.heap.size (.cells #[.bool true] 4 (0,0)) P' L' (1,P',L') (V.setCell ⟨w.heap.size,0,none⟩ (.bool true)):=⟨rfl,hR.gG.setCell (p:=⟨w.heap.size,0,none⟩) (Nat.le_refl _) _,heap_setCell_same _ _ 0 _ _ _ hres,hR.low⟩
  have KK:aW 0 (fun k=>k=w.heap.size+1∨k=w.heap.size+1+1) w2.heap.size V (V.setCell ⟨w.heap.size,0,none⟩ (.bool true)):=aW.only (C:=fun k=>k=w.heap.size) (Only.grown (grownBy_setCell _ _ _ _) rfl) (fun k hk=>by omega) (fun k o hk _ hB=>by omega)
  have R3:=Lib.hid R3
  have KK:=Lib.hid KK
  have CH:=Lib.hid (Rx (aj hx).1 hxp)
  clear hR hn hx hres hz1 hz2
  gi_wp2
  exact⟨KK.out,R3.out,rfl,CH.out⟩
 case pass=>
  rintro⟨j,P',L'⟩ ⟨j',s'⟩ V ⟨hR,hn⟩ ⟨⟨he,he2⟩,hr,hp⟩
  have e:=hR.eq
  simp only[Prod.mk.injEq]at e
  obtain⟨rfl,rfl⟩:=e
  simp only at he he2 hp hn
  subst he he2
  refine⟨⟨rfl,hR.gG,hR.box,hR.low⟩,fun i hi y hy=>?_⟩
  simp only at hi
  by_cases c:i=j
  ·subst c;exact hp y hy
  ·exact hn i (by omega) y hy
 case done=>
  rintro D ⟨j,P',L'⟩ V hD hf ⟨hR,hn⟩ qx
  have e:=hR.eq
  simp only[Prod.mk.injEq]at e
  obtain⟨rfl,rfl⟩:=e
  have hj:j=n+1:=hf
  simp only at hn
  have hch:mP pid L'=false:=Nb fun y hy=>hn y.1 (by have:=(H.out.good.ok y hy).1;omega) y (dI H.out.good.up hy)
  have hres:=hR.box
  have f0:=free_of_one hres
  have g0:=cell_of_one hres
  have hres2:=heap_setCell_same _ _ 0 _ _ (.bool false) hres
  have hb2:=hR.gG.setCell (p:=⟨w.heap.size,0,none⟩) (Nat.le_refl _) (.bool false)
  have hlow:=hR.low
  have KD:(V.setCell ⟨w.heap.size,0,none⟩ (.bool false)).heap[D]? =some (.deferred (some [])):=(Below.heap_setCell _ _ _ _ (by simp only;omega)).trans qx
  have HCH:=Lib.hid hch
  clear hR hn hres hj hf hch
  gi_wp2
  generalize V.setCell ⟨w.heap.size,0,none⟩ (.bool false)=V3 at*
  refine⟨by simp, .inl ⟨_,_,rfl,run_takeDeferred KD,?_⟩⟩
  have hb4:=hb2.trans (fB w.heap.size V3 D (.deferred none) (by omega))
  have hr4:(V3.putObj D (.deferred none)).heap[w.heap.size]? =some (.cells #[.bool false] 4 (0,0)):=(World.putObj_heap_other (by omega)).trans hres2
  generalize V3.putObj D (.deferred none)=V4 at*
  have q1:=cell_of_one hr4
  refine⟨.bool false,?_,by rw[HCH.out],hb4⟩
  simp[results,Tryz.results117,go_sem,q1]
 case stop=>
  rintro D c V hD ⟨hR,rfl,hch⟩ qx
  have hlow:=hR.low
  gi_wp2
  refine⟨by simp, .inl ⟨_,_,rfl,run_takeDeferred qx,?_⟩⟩
  have hb4:=hR.gG.trans (fB w.heap.size V D (.deferred none) (by omega))
  have hr4:(V.putObj D (.deferred none)).heap[w.heap.size]? =some (.cells #[.bool true] 4 (0,0)):=(World.putObj_heap_other (by omega)).trans hR.box
  generalize V.putObj D (.deferred none)=V4 at*
  have q1:=cell_of_one hr4
  refine⟨.bool true,?_,by rw[hch],hb4⟩
  simp[results,Tryz.results117,go_sem,q1]
end Go.Proofs.YtammlljefhakmaaGreatDoor
namespace Go.Proofs.YtammlljefhakmaaGreatDoor
open Go.RowKit Go.Shelf Go.Maps
attribute [local go_sem] Oper.semAt_some
set_option maxRecDepth 100000
def agY(P:Pt):Option Nd→Value→Prop
 |none,v=>v= .pointer none
 |some c,v=>∃q,P c.1=some q∧v= .pointer (some ⟨q,0,none⟩)
def NoZ(pid:Int)(L:List Nd)(j:Int):Prop:=∀i,i<j→∀y,aD i L=some y→¬(y.2.1=pid∧y.2.2.1=3)
def aeK(w:World)(w2:Nat)(P:Pt)(L:List Nd)(pid:Int)(c:Code)(V:World):Prop:=∃q x,nI w w2 (H9 q) P L (1,P,L) V∧c= .ret∧rR pid L=some x∧P x.1=some q
set_option maxHeartbeats 4000000 in
theorem ES{w:World}{b m:Nat}{n:Int}{P:Pt}{L:List Nd}(h:TabAt w b m n P L){pid:Int}{o:Nat}(ho:P pid=some o):
  Calls Tryz.prog 217 #[.pointer (some ⟨b,0,none⟩), .pointer (some ⟨o,0,none⟩)] w fun e w'=>(∃v,e= .returned v∧agY P (rR pid L) v)∧Below w.heap.size w w':=by
 obtain⟨w1,hw1⟩:∃w1,w1=w.alloc (.cells #[.pointer none] 178):=⟨_,rfl⟩
 have hz1:w1.heap.size=w.heap.size+1:=by rw[hw1];simp
 obtain⟨w2,hw2⟩:∃w2,w2=(w1.alloc (.cells #[.pointer (some ⟨b,0,none⟩)] 31)).alloc (.cells #[.pointer (some ⟨o,0,none⟩)] 178):=⟨_,rfl⟩
 have hz2:w2.heap.size=w.heap.size+3:=by rw[hw2];simp;omega
 have b1:Below w.heap.size w w1:=by rw[hw1];exact(Below.refl _ _).alloc (Nat.le_refl _) _
 have b2:Below w1.heap.size w1 w2:=by rw[hw2];exact ak _ _ _
 have r1:w1.heap[w.heap.size]? =some (.cells #[.pointer none] 178 (0,0)):=by rw[hw1];exact heap_alloc_new _ _
 have x1:w2.heap[w1.heap.size]? =some (mX b):=by rw[hw2];exact heap_alloc2_old _ _ _
 have x2:w2.heap[w1.heap.size+1]? =some (H9 o):=by rw[hw2];exact heap_alloc2_new _ _ _
 have R2:Hid (nI w w2.heap.size (.cells #[.pointer none] 178 (0,0)) P L (1,P,L) w2):=Lib.hid ⟨rfl,b1.trans (b2.mono (by omega)),(b2.block _ (by omega)).trans r1,by omega⟩
 rw[hz1]at x1 x2
 have X1:=Lib.hid x1
 have X2:=Lib.hid x2
 have H:=Lib.hid h
 have HO:=Lib.hid ho
 clear h ho b1 b2 r1 x1 x2
 refine(callsIn_wide (n:=14)).1 ?_
 refine callsIn_of_wp_marks Tryz.func217 rfl trivial ?_ rfl
 simp only[Tryz.ntmps217,List.size_toArray,List.length_cons,List.length_nil,Nat.reduceAdd,Nat.reduceSub,Array.replicate_succ,Array.replicate_zero,List.push_toArray,List.append_toArray,List.nil_append,List.cons_append]
 gi_wp2
 refine⟨trivial,?_⟩
 rw[←hw1]
 clear hw1
 refine(callsIn_wide.2 (sJ _ _ _)).mono ?_
 rintro e w' ⟨rfl,rfl⟩
 gi_wp2
 rw[←hw2]
 clear hw2
 refine qC (T:=0) (gf:=167) (lb:=#[.pointer (some ⟨w.heap.size+1,0,none⟩), .pointer (some ⟨w.heap.size+1+1,0,none⟩)]) rfl (enters Tryz.func167 rfl rfl) (vF (T:=0) (by decide) b m (w.heap.size+1) (w.heap.size+1+1) o n pid w2 X1.out X2.out)
  (fun k hk=>⟨by omega,rfl⟩) (Nat.le_refl _) (by intro _;rfl)
  (fun s V=>nI w w2.heap.size (.cells #[.pointer none] 178 (0,0)) P L s V∧NoZ pid L s.1)
  (aeK w w2.heap.size P L pid)
  (nI.hangs _ _ _ _ _).toT (fun c V V' hh hb=>by obtain⟨q,x,hh⟩:=hh;exact⟨q,x,(nI.hangs w w2.heap.size _ P L (p:=fun _=>c= .ret∧rR pid L=some x∧P x.1=some q)) (1,P,L) V V' hh hb.gG⟩)
  (fun s V hh=>by
   obtain⟨j,P',L'⟩:=s
   have e:=hh.1.eq
   simp only[Prod.mk.injEq]at e
   obtain⟨rfl,rfl⟩:=e
   exact⟨H.out.later hh.1.gG,HO.out⟩)
  (1,P,L) rfl ⟨R2.out,fun i hi y hy=>by have:=(H.out.good.at_ hy).1;simp only at hi;omega⟩
  (fun x a' _=>a'={ tmps:=#[.pointer (some ⟨b,0,none⟩), .pointer (some ⟨o,0,none⟩),undef,undef, .pointer (some ⟨w.heap.size,0,none⟩), .pointer (some ⟨x,0,none⟩), .pointer (some ⟨b,0,none⟩), .pointer (some ⟨o,0,none⟩), .func (.func 167) #[] #[.pointer (some ⟨w.heap.size+1,0,none⟩), .pointer (some ⟨w.heap.size+1+1,0,none⟩)], .pointer (some ⟨x,0,none⟩),undef,undef,undef,undef,undef,undef],defers:=[] })
  (fun _ _ _ _ _ _ hs _ _=>hs)
  ?assign ?body ?pass ?done ?stop
 case assign=>
  rintro l' s x V C hI hzv hC
  dsimp only[Ef]
  gi_wp2
  exact hC _ _ (aW.refl _ _ _ _) hI rfl
 case body=>
  rintro l' ⟨j,P',L'⟩ p a' V ⟨hR,hn⟩ hzv ⟨hr,hp,x,hx,hxp⟩ rfl
  have e:=hR.eq
  simp only[Prod.mk.injEq]at e
  obtain⟨rfl,rfl⟩:=e
  simp only at hx hn
  obtain⟨x',hx',hpx⟩:=(H.out.later hR.gG).proc hp
  have ex:x'=x:=by rw[hx]at hx';exact(Option.some.inj hx').symm
  subst ex
  obtain⟨a0,a1,a2,a3, -⟩:=bG hpx
  have hj1:=(aj hx).2
  by_cases hs3:x'.2.2.1=3
  ·rw[hs3]at a2
   have hres:=hR.box
   have f0:=free_of_one hres
   have g0:=cell_of_one hres
   have R3:nI w w2.heap.size (H9 p) P' L' (1,P',L') (V.setCell ⟨w.heap.size,0,none⟩ (.pointer (some ⟨p,0,none⟩))):=⟨rfl,hR.gG.setCell (p:=⟨w.heap.size,0,none⟩) (Nat.le_refl _) _,heap_setCell_same _ _ 0 _ _ _ hres,hR.low⟩
   have KK:aW 0 (fun k=>k=w.heap.size+1∨k=w.heap.size+1+1) w2.heap.size V (V.setCell ⟨w.heap.size,0,none⟩ (.pointer (some ⟨p,0,none⟩))):=aW.only (C:=fun k=>k=w.heap.size) (Only.grown (grownBy_setCell _ _ _ _) rfl) (fun k hk=>by omega) (fun k o hk _ hB=>by omega)
   have R3:=Lib.hid R3
   have KK:=Lib.hid KK
   have ZZ:=Lib.hid (JK H.out.good.up (aj hx).1 hxp hs3 (fun i hi y hy=>hn i (by omega) y hy))
   have HP:=Lib.hid (show P' x'.1=some p by rw[hj1];exact hp)
   clear hR hn hx hx' hpx hres hz1 hz2 hj1 hxp hs3
   gi_wp2
   exact⟨KK.out,p,x',R3.out,rfl,ZZ.out,HP.out⟩
  ·have hb3:(x'.2.2.1==3)=false:=by simpa using hs3
   have NX:Hid (nI w w2.heap.size (.cells #[.pointer none] 178 (0,0)) P' L' (j+1,P',L') V∧NoZ pid L' (j+1)):=Lib.hid ⟨⟨rfl,hR.gG,hR.box,hR.low⟩,fun i hi y hy=>by
    by_cases c:i=j
    ·subst c;rw[hx]at hy;cases hy;exact fun h=>hs3 h.2
    ·exact hn i (by omega) y hy⟩
   clear hR hn hx hx' hpx hz1 hz2 hj1 hxp hs3
   generalize x'.2.2.1=u at*
   gi_wp2
   exact⟨aW.refl _ _ _ _,j+1,P',L',rfl,NX.out⟩
 case pass=>
  rintro⟨j,P',L'⟩ ⟨j',s'⟩ V ⟨hR,hn⟩ ⟨⟨he,he2⟩,hr,hp⟩
  have e:=hR.eq
  simp only[Prod.mk.injEq]at e
  obtain⟨rfl,rfl⟩:=e
  simp only at he he2 hp hn
  subst he he2
  refine⟨⟨rfl,hR.gG,hR.box,hR.low⟩,fun i hi y hy=>?_⟩
  simp only at hi
  by_cases c:i=j
  ·subst c;exact fun h=>hp y hy h.1
  ·exact hn i (by omega) y hy
 case done=>
  rintro D ⟨j,P',L'⟩ V hD hf ⟨hR,hn⟩ qx
  have e:=hR.eq
  simp only[Prod.mk.injEq]at e
  obtain⟨rfl,rfl⟩:=e
  have hj:j=n+1:=hf
  simp only at hn
  have hch:rR pid L'=none:=Rw fun y hy=>hn y.1 (by have:=(H.out.good.ok y hy).1;omega) y (dI H.out.good.up hy)
  have hres:=hR.box
  have f0:=free_of_one hres
  have g0:=cell_of_one hres
  have hres2:=heap_setCell_same _ _ 0 _ _ (.pointer none) hres
  have hb2:=hR.gG.setCell (p:=⟨w.heap.size,0,none⟩) (Nat.le_refl _) (.pointer none)
  have hlow:=hR.low
  have KD:(V.setCell ⟨w.heap.size,0,none⟩ (.pointer none)).heap[D]? =some (.deferred (some [])):=(Below.heap_setCell _ _ _ _ (by simp only;omega)).trans qx
  have HCH:=Lib.hid hch
  clear hR hn hres hj hf hch
  gi_wp2
  generalize V.setCell ⟨w.heap.size,0,none⟩ (.pointer none)=V3 at*
  refine⟨by simp, .inl ⟨_,_,rfl,run_takeDeferred KD,?_⟩⟩
  have hb4:=hb2.trans (fB w.heap.size V3 D (.deferred none) (by omega))
  have hr4:(V3.putObj D (.deferred none)).heap[w.heap.size]? =some (.cells #[.pointer none] 178 (0,0)):=(World.putObj_heap_other (by omega)).trans hres2
  generalize V3.putObj D (.deferred none)=V4 at*
  have q1:=cell_of_one hr4
  refine⟨.pointer none,?_,⟨_,rfl,by rw[HCH.out];rfl⟩,hb4⟩
  simp[results,Tryz.results217,go_sem,q1]
 case stop=>
  rintro D c V hD ⟨q,x,hR,rfl,hch,hpq⟩ qx
  have hlow:=hR.low
  gi_wp2
  refine⟨by simp, .inl ⟨_,_,rfl,run_takeDeferred qx,?_⟩⟩
  have hb4:=hR.gG.trans (fB w.heap.size V D (.deferred none) (by omega))
  have hr4:(V.putObj D (.deferred none)).heap[w.heap.size]? =some (H9 q):=(World.putObj_heap_other (by omega)).trans hR.box
  generalize V.putObj D (.deferred none)=V4 at*
  have q1:=cell_of_one hr4
  refine⟨.pointer (some ⟨q,0,none⟩),?_,⟨_,rfl,by rw[hch];exact⟨q,hpq,rfl⟩⟩,hb4⟩
  simp[results,Tryz.results217,go_sem,q1]
end Go.Proofs.YtammlljefhakmaaGreatDoor
namespace Go.Proofs.YtammlljefhakmaaGreatDoor
open Go.RowKit Go.Shelf Go.Maps
attribute [local go_sem] Oper.semAt_some
set_option maxRecDepth 100000
theorem Nc{w:World}{b m:Nat}{n:Int}{P:Pt}{L:List Nd}(h:TabAt w b m n P L){pid:Int}{o:Nat}(ho:P pid=some o)(hz:rR pid L=none):
  Calls Tryz.prog 217 #[.pointer (some ⟨b,0,none⟩), .pointer (some ⟨o,0,none⟩)] w fun e w'=>e= .returned (.pointer none)∧Below w.heap.size w w':=
 (ES h ho).mono fun e w' ⟨⟨v,h1,h2⟩,h3⟩=>by
  rw[hz]at h2
  exact⟨by rw[h1,show v= _ from h2],h3⟩
theorem Nf{w:World}{b m:Nat}{n:Int}{P:Pt}{L:List Nd}(h:TabAt w b m n P L){pid:Int}{o:Nat}(ho:P pid=some o){c:Nd}(hz:rR pid L=some c){q:Nat}(hq:P c.1=some q):
  Calls Tryz.prog 217 #[.pointer (some ⟨b,0,none⟩), .pointer (some ⟨o,0,none⟩)] w fun e w'=>e= .returned (.pointer (some ⟨q,0,none⟩))∧Below w.heap.size w w':=
 (ES h ho).mono fun e w' ⟨⟨v,h1,h2⟩,h3⟩=>by
  rw[hz]at h2
  obtain⟨q',hq',hv⟩:=h2
  rw[hq]at hq'
  cases hq'
  exact⟨by rw[h1,hv],h3⟩
def Vm(x:Nat×Nat):Array Value:=#[.pointer (some ⟨x.1,0,none⟩), .pointer (some ⟨x.2,0,none⟩)]
def abk(b m:Nat)(n:Int):Way JJ (Nat×Nat) where
 At s V:=TabAt V b m n s.2.1 s.2.2
 S s x:=(1≤s.1∧s.1≤n)∧s.2.1 s.1=some x.1∧∃c,kT s.1 s.2.2=some c∧s.2.1 c.1=some x.2
 Nx s s':=s'.1=s.1+1
 Ps s s':=(s'.1=s.1+1∧s'.2=s.2)∧(1≤s.1∧s.1≤n)∧kT s.1 s.2.2=none
 Start s:=s.1=1
 Fin s:=s.1=n+1
def Zn(l:Nat):Obj:= .cells #[.func (.yield l) #[] #[]] 295 (0,0)
structure zB(V:World)(W b bt l:Nat):Prop where
 y:V.heap[W]? =some (Zn l)
 t:V.heap[bt]? =some (mX b)
 q:V.heap[W+1]? =some (mX b)
theorem zB.hangs{W b bt l B:Nat}(h1:bt<B)(hW:W+1<B):iH B (fun(_:JJ) V=>zB V W b bt l):=fun _ _ _ h hb=>⟨(hb.block _ (by omega)).trans h.y,(hb.block _ h1).trans h.t,(hb.block _ hW).trans h.q⟩
theorem zB.keep{T:TypeId}(hT:Ia T){V V':World}{W b bt l B:Nat}(h:zB V W b bt l)(hk:aW T (fun k=>k=bt) B V V')(hB:B≤W):zB V' W b bt l:=
 ⟨hk.same _ _ h.y (Or.inr ⟨hB,fun e=>hT.2.1 (Option.some.inj e).symm⟩),hk.same _ _ h.t (Or.inl rfl),hk.same _ _ h.q (Or.inr ⟨by omega,fun e=>hT.2.2 (Option.some.inj e).symm⟩)⟩
set_option maxHeartbeats 4000000 in
theorem Vn{T:TypeId}(hT:Ia T)(b m bt:Nat)(n:Int)(w:World)(h1:w.heap[bt]? =some (mX b)):
  Zk T Tryz.prog 216 #[.pointer (some ⟨bt,0,none⟩)] Vm (abk b m n) (fun k=>k=bt) w:=by
 intro l J Jx W s0 hK hz hJ hJx hat hY hP hst h0
 have t0:W.heap[bt]? =some (mX b):=(hK bt rfl).2.trans h1
 have l1:bt<W.heap.size:=lt_of_block t0
 have q0:=cell_of_one t0
 obtain⟨W1,hW1⟩:∃W1,W1=(W.alloc (.cells #[.func (.yield l) #[] #[]] 295)).alloc (.cells #[.pointer (some ⟨b,0,none⟩)] 31):=⟨_,rfl⟩
 have hB1:Below W.heap.size W W1:=by rw[hW1];exact ak W _ _
 have hz1:W1.heap.size=W.heap.size+2:=by rw[hW1];simp
 have T1:W1.heap[W.heap.size+1]? =some (mX b):=by rw[hW1];exact heap_alloc2_new W _ _
 have C1:zB W1 W.heap.size b bt l:=⟨by rw[hW1];exact(Below.heap_alloc _ _ _ (by simp)).trans (heap_alloc_new W _),(hB1.block _ l1).trans t0,T1⟩
 have C1:=Lib.hid C1
 have T1:=Lib.hid T1
 have hmx:Tryz.prog.follows .mixedOrders=true:=by kernel_rfl
 refine(callsIn_wide (n:=12)).1 ?_
 refine callsIn_of_wp_marks Tryz.func216 rfl trivial ?_ rfl
 simp only[Tryz.ntmps216,List.size_toArray,List.length_cons,List.length_nil,Nat.reduceAdd,Nat.reduceSub,Array.replicate_succ,Array.replicate_zero,List.push_toArray,List.append_toArray,List.nil_append,List.cons_append]
 gi_wp2_with (refine⟨trivial,?_⟩;gi_at_call 119;refine(callsIn_wide.2 (Na _ _)).mono ?_;rintro e w' ⟨rfl,rfl⟩)
 rw[←hW1]
 clear hW1
 refine qC (gf:=174) (lb:=#[.pointer (some ⟨W.heap.size+1,0,none⟩)]) rfl (enters Tryz.func174 rfl rfl) (Vj T b m (W.heap.size+1) n W1 T1.out)
  (fun k hk=>⟨by omega,rfl⟩) (Nat.le_refl _) (by intro _;rfl)
  (fun s V=>J s V∧zB V W.heap.size b bt l) (fun c V=>c= .ret∧Jx V)
  ((hJ.mono (by omega)).and (zB.hangs (by omega) (by omega)).toT)
  (fun c V V' h hb=>⟨h.1,hJx () _ _ h.2 (hb.mono (by omega))⟩) (fun s V h=>hat s V h.1)
  s0 hst ⟨hJ _ _ _ h0 (eX.of_below hB1 (Nat.le_refl _)),C1.out⟩
  (fun x a' _=>a'={ tmps:=#[.func (.yield l) #[] #[], .pointer (some ⟨bt,0,none⟩), .pointer (some ⟨W.heap.size,0,none⟩), .pointer (some ⟨x,0,none⟩),undef, .pointer (some ⟨b,0,none⟩), .func (.func 174) #[] #[.pointer (some ⟨W.heap.size+1,0,none⟩)], .pointer (some ⟨x,0,none⟩),undef,undef,undef,undef,undef,undef,undef,undef,undef,undef,undef,undef,undef,undef,undef,undef,undef],defers:=[] })
  (fun _ _ _ _ _ _ hs _ _=>hs)
  ?assign ?body ?pass ?done ?stop
 case assign=>
  rintro l' s x V C ⟨hj,hc⟩ hzv hC
  dsimp only[Ef]
  gi_wp2
  exact hC _ _ (aW.refl _ _ _ _) ⟨hj,hc⟩ rfl
 case body=>
  rintro l' ⟨j,P,L⟩ p a' V ⟨hj,hc⟩ hzv ⟨hr,hp⟩ rfl
  have htab:=hat _ _ hj
  change TabAt V b m n P L at htab
  simp only at hr hp
  obtain⟨x,hx,hpx⟩:=htab.proc hp
  obtain⟨a0,a1,a2,a3, -⟩:=bG hpx
  have e2:=cell_of_one hc.t
  have WK:Hid (∀V' k ob,Below V.heap.size V V'→V'.heap[k]? =some ob→(k=W.heap.size+1∨(W1.heap.size≤k∧kindOf ob≠some T))→(W.heap.size≤k∧kindOf ob≠some T)):=Lib.hid (fun V' k ob hb Vk h=>by
   rcases h with rfl|h
   ·refine⟨by omega,fun e=>hT.2.2 ?_⟩
    have h2:some ob=some (mX b):=Vk.symm.trans (below_block hb hc.q)
    cases h2
    exact(Option.some.inj e).symm
   ·exact⟨by omega,h.2⟩)
  have HC:=Lib.hid hc
  have HJ:=Lib.hid hj
  have JB:Hid (∀V',Below V.heap.size V V'→J (j,P,L) V'):=Lib.hid (fun V' hb=>hJ _ _ _ hj (eX.of_below hb (by omega)))
  have HX:=Lib.hid hx
  have HT:=Lib.hid htab
  have HZ:Hid (W.heap.size≤V.heap.size):=Lib.hid (by omega)
  have HPP:=Lib.hid hp
  by_cases h2:x.2.2.1=2
  ·have hb:(x.2.2.1==2)=true:=by simpa using h2
   have hse:kT j L=rR j L:=by unfold kT;rw[hx];simp only;rw[if_pos h2]
   cases hz:rR j L with
   |none=>
    have END:=Lib.hid (Nc htab hp hz)
    have N1:Hid (∀V',Below V.heap.size V V'→J (j+1,P,L) V'):=Lib.hid (fun V' hb=>hP (j,P,L) (j+1,P,L) V' (JB.out V' hb) ⟨⟨rfl,rfl⟩,hr,hse.trans hz⟩)
    rw[h2]at a2
    clear hpx htab hc hx h2 hse hz hp
    gi_wp2_with (refine⟨trivial,?_⟩;gi_at_call 217;refine(CallsIn.inRound l' (callsIn_wide.2 END.out)).mono ?_;rintro e V' ⟨rfl,qy⟩;have B9:=Lib.hid qy;clear qy)
    refine⟨fun _ h=>(by cases h),?_⟩
    gi_wp2
    exact⟨aW.of_below B9.out,(j+1,P,L),rfl,N1.out _ B9.out,HC.out.keep hT (aW.of_below B9.out) (Nat.le_refl _)⟩
   | some c=>
    have hcm:=EO hz
    obtain⟨q,hq, -⟩:=htab.inn c.1 c (dI htab.good.up hcm.1)
    have END:=Lib.hid (Nf htab hp hz hq)
    have YV:=Lib.hid (fun V' (hb:Below V.heap.size V V')=>hY (j,P,L) (p,q) V' 6 (JB.out V' hb) (Nat.le_trans HZ.out hb.size) ⟨hr,hp,c,hse.trans hz,hq⟩)
    rw[h2]at a2
    clear hpx htab hc hx h2 hse hz hp hcm hq
    gi_wp2_with (refine⟨trivial,?_⟩;gi_at_call 217;refine(CallsIn.inRound l' (callsIn_wide.2 END.out)).mono ?_;rintro e V' ⟨rfl,qy⟩;have B9:=Lib.hid qy;obtain⟨fn,tmps,assign,body,hy,hR⟩:=YV.out V' qy;dsimp only[Vm]at hy;have HR:=Lib.hid hR;have e4:=cell_of_one (below_block qy HC.out.y);clear qy hR)
    refine(EN HR.out).mono ?_
    rintro e V3 ⟨hk,⟨rfl,s',hs',hJ3⟩|⟨rfl,hJ3⟩⟩
    ·gi_wp2
     exact⟨(aW.of_below B9.out).trans (hk.weak fun k ob Vk h=>Or.inr (WK.out _ k ob B9.out Vk h)),s',hs',hJ3,HC.out.keep hT ((aW.of_below B9.out).trans hk) (Nat.le_refl _)⟩
    ·gi_wp2
     exact⟨(aW.of_below B9.out).trans (hk.weak fun k ob Vk h=>Or.inr (WK.out _ k ob B9.out Vk h)),rfl,hJ3⟩
  ·have hb:(x.2.2.1==2)=false:=by simpa using h2
   have hse:kT j L=none:=by unfold kT;rw[hx];simp only;rw[if_neg h2]
   have N1:=Lib.hid (hP (j,P,L) (j+1,P,L) V hj ⟨⟨rfl,rfl⟩,hr,hse⟩)
   clear hpx htab hc hx h2 hse hp
   generalize x.2.2.1=u at*
   gi_wp2
   exact⟨aW.refl _ _ _ _,(j+1,P,L),rfl,N1.out,HC.out⟩
 case pass=>
  rintro⟨j,P,L⟩ s' V ⟨hj,hc⟩ ⟨he,hr,hp⟩
  exact⟨hP _ _ _ hj ⟨he,hr,by unfold kT;rw[(hat _ _ hj:TabAt V b m n P L).none_ hp]⟩,hc⟩
 case done=>
  rintro D s V hD hf ⟨hj, -⟩ qx
  gi_wp2
  refine⟨by simp, .inl ⟨_,_,rfl,run_takeDeferred qx,?_⟩⟩
  exact⟨_,results_none rfl _ _ _,⟨_,rfl⟩,Or.inl ⟨s,hf,hJ _ _ _ hj (eX.put _ qx (by simp[kindOf]) (by omega))⟩⟩
 case stop=>
  rintro D c V hD ⟨rfl,hj⟩ qx
  gi_wp2
  refine⟨by simp, .inl ⟨_,_,rfl,run_takeDeferred qx,?_⟩⟩
  exact⟨_,results_none rfl _ _ _,⟨_,rfl⟩,Or.inr (hJx () _ _ hj (eX.put _ qx (by simp[kindOf]) (by omega)))⟩
end Go.Proofs.YtammlljefhakmaaGreatDoor
