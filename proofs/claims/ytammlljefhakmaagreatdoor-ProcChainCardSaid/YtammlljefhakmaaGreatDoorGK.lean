/- Helps of the proof. No condition. -/
import Derived.Test.YtammlljefhakmaaGreatDoorGK1
namespace Go.Proofs.YtammlljefhakmaaGreatDoor
open Go.RowKit Go.Maps
set_option maxRecDepth 100000
structure lV(D:DataW Unit)(R:Nat→Nat):Prop where
 at_:∀x:Int,D.atKey (.int .i64 x) (.lit (.int .i64 0))= .lit (.int .i64 (rT R x))
 frames:Frames D
theorem lV.empty:lV (.map []) (fun _=>0):=⟨fun x=>by simp[rT];rfl,[],rfl,List.Pairwise.nil,fun p hp=>by simp at hp⟩
theorem Ko(R:Nat→Nat)(x v:Nat)(y:Int):rT (upd R x v) y=if y=(x:Int)then(v:Int)else rT R y:=by
 unfold rT
 by_cases h0:0≤y
 ·obtain⟨y,rfl⟩:=Int.eq_ofNat_of_zero_le h0
  rw[if_pos h0,if_pos h0,Int.toNat_natCast]
  by_cases e:y=x
  ·subst e;rw[upd_same,if_pos rfl]
  ·rw[aB _ _ _ _ e,if_neg (by omega)]
 ·rw[if_neg h0,if_neg h0,if_neg (by omega)]
theorem lV.put{D:DataW Unit}{R:Nat→Nat}(h:lV D R)(x v:Nat)(hx:x<1024):lV (D.put (.int .i64 (x:Int)) (.lit (.int .i64 (v:Int)))) (upd R x v):=
 ⟨fun y=>by
  rw[Ko]
  by_cases e:y=(x:Int)
  ·subst e;rw[if_pos rfl,atKey_put_same h.frames.isMap (AZ _ (by omega))]
  ·rw[if_neg e,atKey_put_other (r9 e),h.at_],h.frames.put x hx _⟩
theorem lV.del{D:DataW Unit}{R:Nat→Nat}(h:lV D R)(x:Nat):lV (D.del (.int .i64 (x:Int))) (upd R x 0):=
 ⟨fun y=>by
  rw[Ko]
  by_cases e:y=(x:Int)
  ·subst e;rw[if_pos rfl,atKey_del_same];rfl
  ·rw[if_neg e,atKey_del_other (r9 e),h.at_],h.frames.del _⟩
def gY(w:World)(b:Nat)(R:Nat→Nat):Prop:=∃(D:DataW Unit) (k:Nat),w.ownsMap Tryz.prog 3 (plainElem Tryz.prog 3) b k D∧k≤1024∧lV D R
theorem NM{w:World}{b k:Nat}{D:DataW Unit}(h:w.ownsMap Tryz.prog 3 (plainElem Tryz.prog 3) b k D)(m:Nat)(hm:Maps.size D≤m):w.ownsMap Tryz.prog 3 (plainElem Tryz.prog 3) b m D:=by
 obtain⟨es,clock,hb,F,_,rfl⟩:=h
 refine⟨es,clock,hb,F,?_,rfl⟩
 simpa[Maps.size,length_sorted]using hm
theorem gY.made(w:World):gY (w.alloc (.map #[] 0)) w.heap.size (fun _=>0):=⟨_,0,World.ownsMap_made _ _ _ _,by omega,lV.empty⟩
theorem gY.isMap{w:World}{b:Nat}{R:Nat→Nat}(h:gY w b R):∃es clock,w.heap[b]? =some (.map es clock):=by
 obtain⟨D,k,⟨es,clock,hb,_⟩,_⟩:=h
 exact⟨es,clock,hb⟩
theorem gY.lt{w:World}{b:Nat}{R:Nat→Nat}(h:gY w b R):b<w.heap.size:=by
 obtain⟨es,clock,hb⟩:=h.isMap
 exact lt_of_block hb
theorem gY.same{w w':World}{b:Nat}{R:Nat→Nat}(h:gY w b R)(e:w'.heap[b]? =w.heap[b]?):gY w' b R:=by
 obtain⟨D,k,⟨es,clock,hb,r⟩,hk,hr⟩:=h
 exact⟨D,k,⟨es,clock,e.trans hb,r⟩,hk,hr⟩
section
variable (w:World) {ops:Array Oper} {rest:List Oper} {o:Oper} {a:Act} {Q:Exit→Act→World→Prop}
theorem dH(hg:o.guard=none)(m x:Operand)(hop:o.op=Op.lookup 112 m x false)(b:Nat)(R:Nat→Nat)(hm:a.eval m= .map (some b))(h:gY w b R)(y c:Int)(hx:a.eval x= .int .i64 y)(hy: -9223372036854775808≤y∧y≤9223372036854775807)(hc:rT R y=c)
  (hK:wpList Tryz.prog ops Q rest (a.put o.dst (.int .i64 c)) w):wpList Tryz.prog ops Q (o::rest) a w:=by
 obtain⟨D,k,hown,_,hr⟩:=h
 refine wpList_lookup_own_int _ hg m x 112 hop 3 3 .i64 qA Tryz.underlying112 Tryz.underlying3 (aeu _) b k D hm hown (.int .i64 y) (.int .i64 y) hx (gJ y hy) fun d hd _=>?_
 rw[hr.at_ y]at hd
 have e:rT R y=d:=by cases hd;rfl
 rw[←e,hc];exact hK
theorem mJ(hg:o.guard=none)(m x v:Operand)(hop:o.op=Op.mapUpdate 112 m x v)(b:Nat)(R:Nat→Nat)(hm:a.eval m= .map (some b))(h:gY w b R)(y c:Nat)(hx:a.eval x= .int .i64 (y:Int))(hy:y<1024)(hv:a.eval v= .int .i64 (c:Int))(hc:c≤9223372036854775807)
  (hK:∀w',gY w' b (upd R y c)→w.grownBy w' (some b)→wpList Tryz.prog ops Q rest (a.put o.dst undef) w'):wpList Tryz.prog ops Q (o::rest) a w:=by
 obtain⟨D,k,hown,hk,hr⟩:=h
 refine wpList_mapUpdate_own _ hg m x v 112 hop 3 3 qA Tryz.underlying112 _ b k D hm hown (by unfold maxLen;omega) (.int .i64 (y:Int)) (.int .i64 (c:Int)) (.int .i64 (y:Int)) hx hv (gJ _ (by omega)) (.lit (.int .i64 (c:Int))) [] (plainElem_int Tryz.underlying3 (wfI _ (by omega))) fun w' h1 h2=>?_
 have hr':=hr.put y c hy
 exact hK w' ⟨_,1024,NM h1 1024 hr'.frames.size,Nat.le_refl _,hr'⟩ h2
theorem xY(hg:o.guard=none)(m x:Operand)(hop:o.op=Op.call { callee:=Callee.builtin Builtin.delete,args:=#[m,x],argTypes:=#[112,3] })(b:Nat)(R:Nat→Nat)(hm:a.eval m= .map (some b))(h:gY w b R)(y:Nat)(hx:a.eval x= .int .i64 (y:Int))(hy:y<1024)
  (hK:∀w',gY w' b (upd R y 0)→w.grownBy w' (some b)→wpList Tryz.prog ops Q rest (a.put o.dst (.tuple #[])) w'):wpList Tryz.prog ops Q (o::rest) a w:=by
 obtain⟨D,k,hown,hk,hr⟩:=h
 refine wpList_delete_own _ hg m x 112 3 hop 3 qA Tryz.underlying112 _ b k D hm hown (.int .i64 (y:Int)) (.int .i64 (y:Int)) hx (gJ _ (by omega)) fun w' h1 h2=>?_
 exact hK w' ⟨_,k,h1,hk,hr.del y⟩ h2.grown
end
end Go.Proofs.YtammlljefhakmaaGreatDoor
namespace Go.Proofs.YtammlljefhakmaaGreatDoor
open Go.RowKit
set_option maxRecDepth 100000
structure bD where
 pb:Nat
 mp:Nat
 fb:Nat
 mb:Nat
 base:Nat
 n:Nat
 v:Value
 T:List (Nat×(Nat×Nat))
 
 kw:Nat→Nat→Int
def bD.P(X:bD):List (Nat×Nat):=X.T.map (·.2)
theorem bD.iJ(X:bD):X.P.length=X.T.length:=by simp[bD.P]
theorem BP(T:List (Nat×(Nat×Nat)))(i:Nat)(h:i<T.length):(T.map (·.2)).getD i (0,0)=(T.getD i default).2:=by
 simp[List.getD_eq_getElem?_getD,h]
def bD.blocks(X:bD)(k:Nat):Prop:=k=X.fb∨k=X.mb∨k∈X.T.map (·.1)
def bD.all(X:bD)(k:Nat):Prop:=X.blocks k∨k=X.pb∨k=X.mp∨X.v.ownBlock=some k
def jJ(T:List (Nat×(Nat×Nat))):List Value:=T.flatMap fun t=>[.pointer (some ⟨t.1,0,none⟩), .int .i64 (t.2.1:Int), .int .i64 (t.2.2:Int)]
theorem Kq(T:List (Nat×(Nat×Nat)))(t:Nat×(Nat×Nat)):jJ (T++[t])=jJ T++[.pointer (some ⟨t.1,0,none⟩), .int .i64 (t.2.1:Int), .int .i64 (t.2.2:Int)]:=by simp[jJ]
theorem BQ:∀(T:List (Nat×(Nat×Nat))) (i:Nat),i<T.length→(jJ T)[i*3]? =some (.pointer (some ⟨(T.getD i default).1,0,none⟩))∧(jJ T)[i*3+1]? =some (.int .i64 ((T.getD i default).2.1:Int))∧(jJ T)[i*3+2]? =some (.int .i64 ((T.getD i default).2.2:Int))
 |[],i,h=>by simp at h
 |t::r,0,_=>⟨rfl,rfl,rfl⟩
 | t::r,i+1,h=>by
  have e:jJ (t::r)=[.pointer (some ⟨t.1,0,none⟩), .int .i64 (t.2.1:Int), .int .i64 (t.2.2:Int)]++jJ r:=rfl
  have h1:=BQ r i (by simpa using h)
  have g:∀j,(jJ (t::r))[(i+1)*3+j]? =(jJ r)[i*3+j]? :=fun j=>by
   rw[e,List.getElem?_append_right (by simp;omega)]
   congr 1
   simp;omega
  refine⟨(g 0).trans ?_,(g 1).trans ?_,(g 2).trans ?_⟩
  ·simpa using h1.1
  ·simpa using h1.2.1
  ·simpa using h1.2.2
structure aK(w:World)(X:bD)(L:List Int)(R:Nat→Nat):Prop where
 mem:bT w X.mp X.fb X.n L
 box:w.heap[X.pb]? =some (.cells #[.pointer (some ⟨X.mp,0,none⟩),X.v, .map (some X.mb)] 115 (0,0))
 parts:w.ownsRow X.base 148 3 X.v X.T.length (jJ X.T)
 sets:∀i,i<X.T.length→dW w (X.T.getD i default).1 (bL (X.T.getD i default).2 R)
 refs:gY w X.mb R
 fit:lC X.n X.P R
 nodup:∀i j,i<X.T.length→j<X.T.length→(X.T.getD i default).1=(X.T.getD j default).1→i=j
structure Moves(w w':World)(X:bD)(L:List Int)(R:Nat→Nat):Prop where
 st:aK w' X L R
 only:Only w w' X.blocks
theorem aK.kept{w w':World}{X:bD}{L:List Int}{R:Nat→Nat}{B:Nat→Prop}(h:aK w X L R)(hw:Only w w' B)(hB:∀k,X.all k→¬B k):aK w' X L R:=
  ⟨⟨hw.kept h.mem.box (hB _ (Or.inr (Or.inr (Or.inl rfl)))),hw.kept h.mem.row (hB _ (Or.inl (Or.inl rfl))),h.mem.len,h.mem.ne,h.mem.pos,h.mem.top⟩,
   hw.kept h.box (hB _ (Or.inr (Or.inl rfl))),iU h.parts hw (fun g hg=>hB _ (Or.inr (Or.inr (Or.inr hg)))),
   fun i hi=>⟨(h.sets i hi).good,hw.kept (h.sets i hi).box (hB _ (Or.inl (Or.inr (Or.inr (List.mem_map.2 ⟨X.T.getD i default,by rw[List.getD_eq_getElem?_getD,List.getElem?_eq_getElem hi];exact List.getElem_mem hi,rfl⟩)))))⟩,
   h.refs.same (hw.block _ h.refs.lt (hB _ (Or.inl (Or.inr (Or.inl rfl))))),h.fit,h.nodup⟩
theorem aK.below{w w':World}{X:bD}{L:List Int}{R:Nat→Nat}(h:aK w X L R)(hb:Below w.heap.size w w'):aK w' X L R:=
 h.kept (B:=fun _=>False) (Only.below hb) (fun _ _=>id)
theorem Moves.stay{w w':World}{X:bD}{L:List Int}{R:Nat→Nat}(h:aK w X L R)(hb:Below w.heap.size w w'):Moves w w' X L R:=⟨h.below hb,Only.below hb⟩
theorem aK.c0{w:World}{X:bD}{L:List Int}{R:Nat→Nat}(h:aK w X L R):w.cell? ⟨X.pb,0,none⟩=some (.pointer (some ⟨X.mp,0,none⟩)):=by rw[cell_of_row w _ _ _ _ _ h.box];rfl
theorem aK.c1{w:World}{X:bD}{L:List Int}{R:Nat→Nat}(h:aK w X L R):w.cell? ⟨X.pb,1,none⟩=some X.v:=by rw[cell_of_row w _ _ _ _ _ h.box];rfl
theorem aK.c2{w:World}{X:bD}{L:List Int}{R:Nat→Nat}(h:aK w X L R):w.cell? ⟨X.pb,2,none⟩=some (.map (some X.mb)):=by rw[cell_of_row w _ _ _ _ _ h.box];rfl
theorem pW{w:World}{base:Nat}{v:Value}{T:List (Nat×(Nat×Nat))}(h:w.ownsRow base 148 3 v T.length (jJ T))(i:Nat)(hi:i<T.length):
  ∃g c s f m,v= .slice (some ⟨g,0,none⟩) T.length c∧g<w.heap.size∧T.getD i default=(s,(f,m))∧w.cell? ⟨g,i*3,none⟩=some (.pointer (some ⟨s,0,none⟩))∧w.cell? ⟨g,i*3+1,none⟩=some (.int .i64 (f:Int))∧w.cell? ⟨g,i*3+2,none⟩=some (.int .i64 (m:Int)):=by
 have h':=h
 rcases h.2 with⟨_,h0⟩|⟨g,cap,cur,rfl,_,hgg,_⟩
 ·omega
 ·obtain⟨a0,a1,a2⟩:=BQ T i hi
  have b0:=h'.cells (g:=g) rfl _ _ a0
  have b1:=h'.cells (g:=g) rfl _ _ a1
  have b2:=h'.cells (g:=g) rfl _ _ a2
  rw[Addr.add_mid,Nat.zero_add]at b0 b1 b2
  generalize T.getD i default=t at*
  obtain⟨s,f,m⟩:=t
  exact⟨g,cap,s,f,m,rfl,lt_of_block hgg,rfl,b0,b1,b2⟩
def Wo(w:World)(p:Option Addr):Prop:=p=none∨∃b,p=some ⟨b,0,none⟩∧w.heap[b]? =some (.cells #[.pointer none, .slice none 0 0, .map none] 115 (0,0))
theorem nR(b mp:Nat)(w:World)(h:w.cell? ⟨b,0,none⟩=some (.pointer (some ⟨mp,0,none⟩))):Calls Tryz.prog 124 #[.pointer (some ⟨b,0,none⟩)] w fun e w'=>e= .returned (.bool true)∧w=w':=by
 go_enter Tryz.func124,Tryz.ntmps124
 go_wp2
 go_ret
 exact⟨rfl,rfl⟩
theorem ZX(p:Option Addr)(w:World)(h:Wo w p):Calls Tryz.prog 124 #[.pointer p] w fun e w'=>e= .returned (.bool false)∧w=w':=by
 rcases h with rfl|⟨b,rfl,k⟩
 ·go_enter Tryz.func124,Tryz.ntmps124
  go_wp2
  go_ret
  exact⟨rfl,rfl⟩
 ·have h0:w.cell? ⟨b,0,none⟩=some (.pointer none):=by rw[cell_of_row w _ _ _ _ _ k];rfl
  clear k
  go_enter Tryz.func124,Tryz.ntmps124
  go_wp2
  go_ret
  exact⟨rfl,rfl⟩
def kU(f m:Int)(n:Nat):Bool:=decide (0≤f)&&(decide (1≤m)&&(decide (m≤n)&&decide (f≤n-m)))
theorem uy(f m:Int)(n:Nat):kU f m n=true↔0≤f∧1≤m∧m≤n∧f≤n-m:=by simp[kU]
theorem Kr(f m:Int)(n:Nat)(w:World)(hn:n≤1024):Calls Tryz.prog 121 #[.agg #[.int .i64 f, .int .i64 m], .int .i64 (n:Int)] w fun e w'=>e= .returned (.bool (kU f m n))∧Below w.heap.size w w':=by
 have hb:=(Below.refl w.heap.size w).alloc (Nat.le_refl _) (.cells #[.int .i64 f, .int .i64 m] 64)
 have HB:=Lib.hid hb
 clear hb
 by_cases h0:0≤f
 ·have d0:decide (0≤f)=true:=decide_eq_true h0
  by_cases h1:1≤m
  ·have d1:decide (1≤m)=true:=decide_eq_true h1
   by_cases h2:m≤n
   ·have d2:decide (m≤(n:Int))=true:=decide_eq_true h2
    by_cases h3:f≤n-m
    ·have d3:decide (f≤(n:Int)-m)=true:=decide_eq_true h3
     have E:Hid (kU f m n=true):=Lib.hid (by rw[kU,d0,d1,d2,d3];rfl)
     go_enter Tryz.func121,Tryz.ntmps121
     go_wp2
     go_ret
     exact⟨by rw[E.out];rfl,HB.out⟩
    ·have d3:decide (f≤(n:Int)-m)=false:=decide_eq_false h3
     have E:Hid (kU f m n=false):=Lib.hid (by rw[kU,d0,d1,d2,d3];rfl)
     go_enter Tryz.func121,Tryz.ntmps121
     go_wp2
     go_ret
     exact⟨by rw[E.out];rfl,HB.out⟩
   ·have d2:decide (m≤(n:Int))=false:=decide_eq_false h2
    have E:Hid (kU f m n=false):=Lib.hid (by rw[kU,d0,d1,d2];rfl)
    go_enter Tryz.func121,Tryz.ntmps121
    go_wp2
    go_ret
    exact⟨by rw[E.out];rfl,HB.out⟩
  ·have d1:decide (1≤m)=false:=decide_eq_false h1
   have E:Hid (kU f m n=false):=Lib.hid (by rw[kU,d0,d1];rfl)
   go_enter Tryz.func121,Tryz.ntmps121
   go_wp2
   go_ret
   exact⟨by rw[E.out];rfl,HB.out⟩
 ·have d0:decide (0≤f)=false:=decide_eq_false h0
  have E:Hid (kU f m n=false):=Lib.hid (by rw[kU,d0];rfl)
  go_enter Tryz.func121,Tryz.ntmps121
  go_wp2
  go_ret
  exact⟨by rw[E.out];rfl,HB.out⟩
def oI(p q:Nat×Nat):Bool:=decide ((p.1:Int)<(q.1:Int)+(q.2:Int))&&decide ((q.1:Int)<(p.1:Int)+(p.2:Int))
theorem Sd(p q:Nat×Nat):oI p q=true↔p.1<q.1+q.2∧q.1<p.1+p.2:=by simp[oI];omega
theorem Kt(p q:Nat×Nat)(w:World)(hp:p.1+p.2≤1024)(hq:q.1+q.2≤1024):Calls Tryz.prog 122 #[.agg #[.int .i64 (p.1:Int), .int .i64 (p.2:Int)], .agg #[.int .i64 (q.1:Int), .int .i64 (q.2:Int)]] w fun e w'=>e= .returned (.bool (oI p q))∧Below w.heap.size w w':=by
 obtain⟨f,m⟩:=p
 obtain⟨g,k⟩:=q
 simp only at hp hq ⊢
 have HB:=Lib.hid (((Below.refl w.heap.size w).alloc (Nat.le_refl _) (.cells #[.int .i64 (f:Int), .int .i64 (m:Int)] 64)).alloc (by simp) (.cells #[.int .i64 (g:Int), .int .i64 (k:Int)] 64))
 by_cases h0:(f:Int)<(g:Int)+(k:Int)
 ·have d0:decide ((f:Int)<(g:Int)+(k:Int))=true:=decide_eq_true h0
  by_cases h1:(g:Int)<(f:Int)+(m:Int)
  ·have d1:decide ((g:Int)<(f:Int)+(m:Int))=true:=decide_eq_true h1
   have E:Hid (oI (f,m) (g,k)=true):=Lib.hid (by rw[oI,d0,d1];rfl)
   go_enter Tryz.func122,Tryz.ntmps122
   go_wp2
   go_ret
   exact⟨by rw[E.out];rfl,HB.out⟩
  ·have d1:decide ((g:Int)<(f:Int)+(m:Int))=false:=decide_eq_false h1
   have E:Hid (oI (f,m) (g,k)=false):=Lib.hid (by rw[oI,d0,d1];rfl)
   go_enter Tryz.func122,Tryz.ntmps122
   go_wp2
   go_ret
   exact⟨by rw[E.out];rfl,HB.out⟩
 ·have d0:decide ((f:Int)<(g:Int)+(k:Int))=false:=decide_eq_false h0
  have E:Hid (oI (f,m) (g,k)=false):=Lib.hid (by rw[oI,d0];rfl)
  go_enter Tryz.func122,Tryz.ntmps122
  go_wp2
  go_ret
  exact⟨by rw[E.out];rfl,HB.out⟩
end Go.Proofs.YtammlljefhakmaaGreatDoor
namespace Go.Proofs.YtammlljefhakmaaGreatDoor
open Go.RowKit
set_option maxRecDepth 100000
theorem aK.many{w:World}{X:bD}{L:List Int}{R:Nat→Nat}(h:aK w X L R):X.T.length≤8:=by rw[←X.iJ];exact h.fit.many
theorem Sg(f m:Nat)(x:Int):(vY (f,m) x=false∧(x<f∨((f:Int)≤x∧(m:Int)≤x-f)))∨(vY (f,m) x=true∧(f:Int)≤x∧x-f<m):=by
 cases h:vY (f,m) x with
 |true=>
  have:=(mZ _ _).1 h
  exact Or.inr ⟨rfl,this.1,by have:=this.2;simp only at this;omega⟩
 |false=>
  refine Or.inl ⟨rfl,?_⟩
  have:¬((f:Int)≤x∧x<(f:Int)+(m:Int)):=fun e=>by rw[(mZ (f,m) x).2 e]at h;cases h
  omega
def acV(w:World)(P:List (Nat×Nat))(n:Nat)(x:Int)(i:Value)(wr:World):Prop:=∃k:Nat,i= .int .i64 (k:Int)∧k≤n∧Below w.heap.size w wr∧∀j,j<k→vY (P.getD j (0,0)) x=false
set_option maxHeartbeats 2000000 in
theorem Fv(X:bD)(L:List Int)(R:Nat→Nat)(x:Int)(w:World)(h:aK w X L R)(hx: -9223372036854775808≤x∧x≤9223372036854775807):Calls Tryz.prog 67 #[.pointer (some ⟨X.pb,0,none⟩), .int .i64 x] w fun e w'=>e= .returned (.tuple #[.int .i64 (iI X.P x).1, .int .i64 (iI X.P x).2])∧Below w.heap.size w w':=by
 have c0:=h.c0
 have c1:=h.c1
 have PT:=Lib.hid h.parts
 have FT:=Lib.hid h.fit
 have Pw:=h.many
 have PG:Hid (∀i,i<X.T.length→X.P.getD i (0,0)=(X.T.getD i default).2):=Lib.hid (fun i hi=>BP X.T i hi)
 have PL:=Lib.hid X.iJ
 obtain⟨aa,cc,hv⟩:=jE h.parts
 generalize X.T=T at*
 generalize X.P=P at*
 rw[hv]at c1 PT
 obtain⟨n,hn⟩:∃n,n=T.length:=⟨_,rfl⟩
 rw[←hn]at c1 Pw
 have HN:=Lib.hid hn
 have C0:=Lib.hid c0
 clear h hv hn c0
 go_enter Tryz.func67,Tryz.ntmps67
 go_wp2_with(go_at_call 124;refine(nR _ _ _ C0.out).mono ?_;rintro e w' ⟨rfl,rfl⟩)
 go_loopw [16] (fun i wr=>acV w P n x i wr) (fun i _=>n-(intOf i).toNat)
 case atStart=>exact⟨0,rfl,Nat.zero_le _,Below.refl _ _,fun j hj=>absurd hj (Nat.not_lt_zero _)⟩
 case round=>
  obtain⟨k,rfl,hk,hB,hno⟩:=hrel
  have B:=Lib.hid hB
  have NO:=Lib.hid hno
  clear hB hno
  by_cases hlt':k<n
  ·obtain⟨g,c,s,f,m,hg,hgw,hrow,e0,e1,e2⟩:=pW PT.out k (by have:=HN.out;omega)
   obtain⟨rfl,rfl⟩:aa=some ⟨g,0,none⟩∧cc=c:=by cases hg;exact⟨rfl,rfl⟩
   have d0:=(B.out.cell (p:=⟨g,k*3,none⟩) hgw).trans e0
   have d1:=(B.out.cell (p:=⟨g,k*3+1,none⟩) hgw).trans e1
   have d2:=(B.out.cell (p:=⟨g,k*3+2,none⟩) hgw).trans e2
   have hfm:f+m≤1024:=by
    have h1:=(FT.out.rng k (by rw[PL.out,←HN.out];exact hlt')).2
    rw[PG.out k (by rw[←HN.out];exact hlt'),hrow]at h1
    have:=FT.out.top
    simp only at h1
    omega
   have ROW:Hid (P.getD k (0,0)=(f,m)):=Lib.hid (by rw[PG.out k (by rw[←HN.out];exact hlt'),hrow])
   clear e0 e1 e2 hrow hg
   rcases Sg f m x with⟨hi,ahe⟩|⟨hi,h1,h2⟩
   ·have NO1:Hid (∀j,j<k+1→vY (P.getD j (0,0)) x=false):=Lib.hid (fun j hj=>by
     by_cases e:j=k
     ·subst e;rw[ROW.out];exact hi
     ·exact NO.out j (by omega))
    have B1:=Lib.hid (B.out.alloc B.out.size (.cells #[.pointer (some ⟨s,0,none⟩), .int .i64 (f:Int), .int .i64 (m:Int)] 148))
    rcases ahe with h1|⟨h1,h2⟩
    ·have q1:decide ((f:Int)≤x)=false:=decide_eq_false (by omega)
     go_wp2
     go_roundw
     case rel=>exact⟨k+1,by go_num,by omega,B1.out,NO1.out⟩
     case measure=>simp[intOf];omega
    ·have q1:decide ((f:Int)≤x)=true:=decide_eq_true h1
     have q2:decide (x-(f:Int)<(m:Int))=false:=decide_eq_false (by omega)
     go_wp2
     go_roundw
     case rel=>exact⟨k+1,by go_num,by omega,B1.out,NO1.out⟩
     case measure=>simp[intOf];omega
   ·have q1:decide ((f:Int)≤x)=true:=decide_eq_true h1
    have q2:decide (x-(f:Int)<(m:Int))=true:=decide_eq_true h2
    have E:Hid (iI P x=((k:Int),0)):=Lib.hid (Iq P x k (by rw[PL.out,←HN.out];exact hlt') (by rw[ROW.out];exact hi) NO.out)
    have B1:=Lib.hid (B.out.alloc B.out.size (.cells #[.pointer (some ⟨s,0,none⟩), .int .i64 (f:Int), .int .i64 (m:Int)] 148))
    go_wp2
    go_ret2
    exact⟨by rw[E.out];rfl,B1.out⟩
  ·obtain rfl:k=n:=by omega
   have E:Hid (iI P x=(0,2)):=Lib.hid (Sc P x (by rw[PL.out,←HN.out];exact NO.out))
   go_wp2
   go_ret2
   exact⟨by rw[E.out];rfl,B.out⟩
theorem Wp(p:Option Addr)(x:Int)(w:World)(h:Wo w p):Calls Tryz.prog 67 #[.pointer p, .int .i64 x] w fun e w'=>e= .returned (.tuple #[.int .i64 0, .int .i64 1])∧w=w':=by
 have H:=Lib.hid h
 clear h
 go_enter Tryz.func67,Tryz.ntmps67
 go_wp2_with(go_at_call 124;refine(ZX p _ H.out).mono ?_;rintro e w' ⟨rfl,rfl⟩)
 go_ret2
 exact⟨rfl,rfl⟩
theorem Si:(Tryz.prog.info? 148).map (fun i=>(i.zero,i.size))=some (some (.agg #[.pointer none, .int .i64 0, .int .i64 0]),3):=by kernel_rfl
theorem Fw(w:World):(zeroValue 148).run Tryz.prog w= .ok (.agg #[.pointer none, .int .i64 0, .int .i64 0]) w:=(zero_of_info Si).1 w
theorem Wq(X:bD)(L:List Int)(R:Nat→Nat)(k:Int)(w:World)(h:aK w X L R)(hk:gI X.P k=false):Calls Tryz.prog 83 #[.pointer (some ⟨X.pb,0,none⟩), .int .i64 k] w fun e w'=>e= .returned (.tuple #[.agg #[.pointer none, .int .i64 0, .int .i64 0], .int .i64 2])∧Below w.heap.size w w':=by
 have hz:=Fw
 obtain⟨aa,cc,hv⟩:=jE h.parts
 have hB:=(Below.refl w.heap.size w).alloc (Nat.le_refl _) (.cells #[.pointer none, .int .i64 0, .int .i64 0] 148)
 have h1:=h.below hB
 have c0:=Lib.hid h1.c0
 have c1:=h1.c1
 have Pw:=h.many
 have hk':k<0∨(0≤k∧(X.T.length:Int)≤k):=by
  have:¬gI X.P k=true:=by rw[hk];exact Bool.false_ne_true
  rw[ny,X.iJ]at this
  omega
 rw[hv]at c1
 generalize X.T.length=n at*
 have B:=Lib.hid hB
 clear h h1 hv hk hB
 rcases hk' with hk|⟨hk,hk2⟩
 ·have q1:decide (k<0)=true:=decide_eq_true hk
  go_enter Tryz.func83,Tryz.ntmps83
  go_wp2_with(go_at_call 124;refine(nR _ _ _ c0.out).mono ?_;rintro e w' ⟨rfl,rfl⟩)
  refine bodyPost_ret (v:= .tuple #[.agg #[.pointer none, .int .i64 0, .int .i64 0], .int .i64 2]) (by simp[results,Tryz.results83,go_sem]) rfl ?_
  exact⟨rfl,B.out⟩
 ·have q1:decide (k<0)=false:=decide_eq_false (by omega)
  have q2:decide ((n:Int)≤k)=true:=decide_eq_true hk2
  go_enter Tryz.func83,Tryz.ntmps83
  go_wp2_with(go_at_call 124;refine(nR _ _ _ c0.out).mono ?_;rintro e w' ⟨rfl,rfl⟩)
  refine bodyPost_ret (v:= .tuple #[.agg #[.pointer none, .int .i64 0, .int .i64 0], .int .i64 2]) (by simp[results,Tryz.results83,go_sem]) rfl ?_
  exact⟨rfl,B.out⟩
theorem Ws(X:bD)(L:List Int)(R:Nat→Nat)(k s f m:Nat)(w:World)(h:aK w X L R)(hk:k<X.T.length)(hrow:X.T.getD k default=(s,(f,m))):Calls Tryz.prog 83 #[.pointer (some ⟨X.pb,0,none⟩), .int .i64 (k:Int)] w fun e w'=>e= .returned (.tuple #[.agg #[.pointer (some ⟨s,0,none⟩), .int .i64 (f:Int), .int .i64 (m:Int)], .int .i64 0])∧Below w.heap.size w w':=by
 have hz:=Fw
 have hB:=(Below.refl w.heap.size w).alloc (Nat.le_refl _) (.cells #[.pointer none, .int .i64 0, .int .i64 0] 148)
 have h1:=h.below hB
 have c0:=Lib.hid h1.c0
 have c1:=h1.c1
 have Pw:=h.many
 obtain⟨g,c,s',f',m',hv,hgw,hrow',e0,e1,e2⟩:=pW h1.parts k hk
 obtain⟨rfl,rfl,rfl⟩:s'=s∧f'=f∧m'=m:=by rw[hrow]at hrow';cases hrow';exact⟨rfl,rfl,rfl⟩
 obtain⟨_,_,_,_,_,hv',hg',_⟩:=pW h.parts k hk
 have hgb:g≠w.heap.size:=by
  rw[hv]at hv';cases hv'
  omega
 rw[hv]at c1
 generalize X.T.length=n at*
 have q1:decide ((k:Int)<0)=false:=decide_eq_false (by omega)
 have q2:decide ((n:Int)≤(k:Int))=false:=decide_eq_false (by omega)
 clear h h1 hv hrow hrow' hB hv' hg' hgw
 go_enter Tryz.func83,Tryz.ntmps83
 go_wp2_with(go_at_call 124;refine(nR _ _ _ c0.out).mono ?_;rintro e w' ⟨rfl,rfl⟩)
 refine bodyPost_ret (v:= .tuple #[.agg #[.pointer (some ⟨s',0,none⟩), .int .i64 (f':Int), .int .i64 (m':Int)], .int .i64 0]) (by simp[results,Tryz.results83,go_sem]) rfl ?_
 exact⟨rfl,(Below.refl _ _).alloc (Nat.le_refl _) _⟩
end Go.Proofs.YtammlljefhakmaaGreatDoor
namespace Go.Proofs.YtammlljefhakmaaGreatDoor
open Go.RowKit
set_option maxRecDepth 100000
theorem pX{X:bD}{x a e:Int}(ho:iI X.P x=(a,e)){L:List Int}{R:Nat→Nat}{w:World}(h:aK w X L R)(hx:I64 x):Calls Tryz.prog 67 #[.pointer (some ⟨X.pb,0,none⟩), .int .i64 x] w fun e' w'=>e'= .returned (.tuple #[.int .i64 a, .int .i64 e])∧Below w.heap.size w w':=by
 have:=Fv X L R x w h hx
 rwa [ho]at this
theorem Wt(X:bD)(L:List Int)(R:Nat→Nat)(x:Int)(w:World)(h:aK w X L R)(hx:I64 x):Calls Tryz.prog 203 #[.pointer (some ⟨X.pb,0,none⟩), .int .i64 x] w fun e w'=>e= .returned (.tuple #[.int .i64 (if eH X.P R x=0 then(iI X.P x).1 else 0), .int .i64 (eH X.P R x)])∧Below w.heap.size w w':=by
 have H:=Lib.hid h
 rcases vI h.fit x with⟨ho,he,_⟩|⟨y,i,rfl,hy,hi,ho,_,hr,NQ,he⟩|⟨y,i,rfl,hy,hi,ho,_,hr,hr2,NQ,he⟩
 ·rw[he,ho]
  have HO:=Lib.hid ho
  clear h ho he
  go_enter Tryz.func203,Tryz.ntmps203
  go_wp2_with(go_at_call 67;refine(pX HO.out H.out hx).mono ?_;rintro e w' ⟨rfl,hb⟩;have B:=Lib.hid hb;clear hb)
  go_ret2
  exact⟨rfl,B.out⟩
 ·rw[he,ho]
  have HO:=Lib.hid ho
  have HR:=Lib.hid NQ
  clear h ho he NQ hr
  go_enter Tryz.func203,Tryz.ntmps203
  go_wp2_with(first
   |(go_at_call 67;refine(pX HO.out H.out hx).mono ?_;rintro e w' ⟨rfl,hb⟩;have B:=Lib.hid hb;have H1:=Lib.hid (H.out.below hb);have c2:=(H.out.below hb).c2;clear hb)
   |(at_lookup;refine dH _ rfl _ _ rfl X.mb R rfl H1.out.refs _ 0 rfl hx HR.out ?_))
  go_ret2
  exact⟨rfl,B.out⟩
 ·rw[he,ho]
  have HO:=Lib.hid ho
  have HR:=Lib.hid NQ
  clear h ho he NQ
  generalize R y=q at*
  go_enter Tryz.func203,Tryz.ntmps203
  go_wp2_with(first
   |(go_at_call 67;refine(pX HO.out H.out hx).mono ?_;rintro e w' ⟨rfl,hb⟩;have B:=Lib.hid hb;have H1:=Lib.hid (H.out.below hb);have c2:=(H.out.below hb).c2;clear hb)
   |(at_lookup;refine dH _ rfl _ _ rfl X.mb R rfl H1.out.refs _ (q:Int) rfl hx HR.out ?_))
  go_ret2
  exact⟨rfl,B.out⟩
theorem uz{X:bD}{R:Nat→Nat}{x a e:Int}(he:eH X.P R x=e)(ha:(if e=0 then(iI X.P x).1 else 0)=a){L:List Int}{w:World}(h:aK w X L R)(hx:I64 x):Calls Tryz.prog 203 #[.pointer (some ⟨X.pb,0,none⟩), .int .i64 x] w fun e' w'=>e'= .returned (.tuple #[.int .i64 a, .int .i64 e])∧Below w.heap.size w w':=by
 have:=Wt X L R x w h hx
 rwa [he,ha]at this
theorem ZY{X:bD}{R:Nat→Nat}{x c:Int}(hc:rT R x=c){L:List Int}{w:World}(h:aK w X L R)(hx:I64 x):Calls Tryz.prog 189 #[.pointer (some ⟨X.pb,0,none⟩), .int .i64 x] w fun e w'=>e= .returned (.int .i64 c)∧w=w':=by
 have H:=Lib.hid h
 have HR:=Lib.hid hc
 have c2:=h.c2
 clear h hc
 go_enter Tryz.func189,Tryz.ntmps189
 go_wp2_with(first
  |(go_at_call 124;refine(nR _ _ _ H.out.c0).mono ?_;rintro e w' ⟨rfl,rfl⟩)
  |(at_lookup;refine dH _ rfl _ _ rfl X.mb R rfl H.out.refs _ c rfl hx HR.out ?_))
 go_ret
 exact⟨rfl,rfl⟩
theorem Wu(X:bD)(L:List Int)(R:Nat→Nat)(k:Int)(w:World)(h:aK w X L R):Calls Tryz.prog 35 #[.pointer (some ⟨X.pb,0,none⟩), .int .i64 k] w fun e w'=>e= .returned (.int .i64 (zH X.P R k:Int))∧Below w.heap.size w w':=by
 have H:=Lib.hid h
 cases hk:gI X.P k with
 |false=>
  have E:Hid (zH X.P R k=0):=Lib.hid (by simp[zH,hk])
  have HK:=Lib.hid hk
  clear h hk
  go_enter Tryz.func35,Tryz.ntmps35
  go_wp2_with(go_at_call 83;refine(Wq X L R k _ H.out HK.out).mono ?_;rintro e w' ⟨rfl,hb⟩;have B:=Lib.hid (hb.alloc hb.size (.cells #[.pointer none, .int .i64 0, .int .i64 0] 148));clear hb)
  go_ret
  exact⟨by rw[E.out];rfl,B.out⟩
 | true=>
  have h1:=(ny _ _).1 hk
  rw[X.iJ]at h1
  obtain⟨k,rfl⟩:=Int.eq_ofNat_of_zero_le h1.1
  have hkT:k<X.T.length:=by omega
  obtain⟨t,ht⟩:∃t,X.T.getD k default=t:=⟨_,rfl⟩
  obtain⟨s,f,m⟩:=t
  have hs:=h.sets k hkT
  rw[ht]at hs
  obtain⟨q,hq⟩:∃q,(bL (f,m) R).length=q:=⟨_,rfl⟩
  have E:Hid (zH X.P R (k:Int)=q):=Lib.hid (by
   rw[zH,hk,if_pos rfl,Int.toNat_natCast,bD.P,BP X.T k hkT,ht];exact hq)
  have HK:=Lib.hid hkT
  have HT:=Lib.hid ht
  have HS:=Lib.hid hs
  have HQ:=Lib.hid hq
  clear h hk h1 hkT ht hs hq
  go_enter Tryz.func35,Tryz.ntmps35
  go_wp2_with(first
   |(go_at_call 83;refine(Ws X L R k s f m _ H.out HK.out HT.out).mono ?_;rintro e w' ⟨rfl,hb⟩;have B:=Lib.hid (hb.alloc hb.size (.cells #[.pointer (some ⟨s,0,none⟩), .int .i64 (f:Int), .int .i64 (m:Int)] 148));clear hb)
   |(go_at_call 84;refine(ZN _ _ _ (HS.out.below B.out)).mono ?_;rw[HQ.out];rintro e w' ⟨rfl,rfl⟩))
  go_ret
  exact⟨by rw[E.out];rfl,B.out⟩
theorem Z0{X:bD}{R:Nat→Nat}{k:Int}{c:Nat}(hc:zH X.P R k=c){L:List Int}{w:World}(h:aK w X L R):Calls Tryz.prog 35 #[.pointer (some ⟨X.pb,0,none⟩), .int .i64 k] w fun e w'=>e= .returned (.int .i64 (c:Int))∧Below w.heap.size w w':=by
 have:=Wu X L R k w h
 rwa [hc]at this
end Go.Proofs.YtammlljefhakmaaGreatDoor
namespace Go.Proofs.YtammlljefhakmaaGreatDoor
open Go.RowKit
set_option maxRecDepth 100000
structure jq(w:World)(X:bD)(L:List Int)(R:Nat→Nat)(F:Nat→List Nat):Prop where
 mem:bT w X.mp X.fb X.n L
 box:w.heap[X.pb]? =some (.cells #[.pointer (some ⟨X.mp,0,none⟩),X.v, .map (some X.mb)] 115 (0,0))
 parts:w.ownsRow X.base 148 3 X.v X.T.length (jJ X.T)
 sets:∀i,i<X.T.length→dW w (X.T.getD i default).1 (F i)
 refs:gY w X.mb R
 nodup:∀i j,i<X.T.length→j<X.T.length→(X.T.getD i default).1=(X.T.getD j default).1→i=j
theorem aK.toG{w:World}{X:bD}{L:List Int}{R:Nat→Nat}(h:aK w X L R):jq w X L R (fun i=>bL (X.T.getD i default).2 R):=⟨h.mem,h.box,h.parts,h.sets,h.refs,h.nodup⟩
theorem jq.NR{w:World}{X:bD}{L:List Int}{R:Nat→Nat}{F:Nat→List Nat}(h:jq w X L R F)(hf:lC X.n X.P R)(hF:∀i,i<X.T.length→F i=bL (X.T.getD i default).2 R):aK w X L R:=
 ⟨h.mem,h.box,h.parts,fun i hi=>by rw[←hF i hi];exact h.sets i hi,h.refs,hf,h.nodup⟩
theorem Wv{T:List (Nat×(Nat×Nat))}{i:Nat}(h:i<T.length):(T.getD i default).1∈T.map (·.1):=
 List.mem_map.2 ⟨T.getD i default,by rw[List.getD_eq_getElem?_getD,List.getElem?_eq_getElem h];exact List.getElem_mem h,rfl⟩
theorem lW{w w':World}{base k n r:Nat}{e:TypeId}{v:Value}{xs:List Value}{o:Obj}(h:w.ownsRow base e k v n xs)(hg:w.grownBy w' (some r))(ho:w.heap[r]? =some o)(hk:kindOf o≠some e):w'.ownsRow base e k v n xs:=by
 refine h.kept hg (Or.inr fun e2=>?_)
 obtain⟨cs,hcs⟩:=bF h e2
 rw[hcs]at ho
 exact hk (by rw[←Option.some.inj ho];rfl)
theorem gU{w w':World}{k r:Nat}{o o':Obj}(h:w.heap[k]? =some o)(hg:w.grownBy w' (some r))(ho:w.heap[r]? =some o')(hk:kindOf o≠kindOf o'):w'.heap[k]? =some o:=
 (hg.block k (lt_of_block h) (fun e=>Hq h ho hk (Option.some.inj e))).trans h
theorem jq.map{w w':World}{X:bD}{L:List Int}{R R':Nat→Nat}{F:Nat→List Nat}(h:jq w X L R F)(hg:w.grownBy w' (some X.mb))(hr:gY w' X.mb R'):jq w' X L R' F:=by
 obtain⟨es,ck,ho⟩:=h.refs.isMap
 exact⟨⟨gU h.mem.box hg ho (by simp[kindOf]),gU h.mem.row hg ho (by simp[kindOf]),h.mem.len,h.mem.ne,h.mem.pos,h.mem.top⟩,
  gU h.box hg ho (by simp[kindOf]),lW h.parts hg ho (by simp[kindOf]),fun i hi=>⟨(h.sets i hi).good,gU (h.sets i hi).box hg ho (by simp[kindOf])⟩,hr,h.nodup⟩
theorem jq.set{w w':World}{X:bD}{L:List Int}{R:Nat→Nat}{F:Nat→List Nat}(h:jq w X L R F)(i:Nat)(hi:i<X.T.length)(K:List Nat)(ht:Turn w w' (X.T.getD i default).1 K):jq w' X L R (fun j=>if j=i then K else F j):=by
 have ho:=(h.sets i hi).box
 have hg:=ht.grown
 refine⟨⟨gU h.mem.box hg ho (by simp[kindOf]),gU h.mem.row hg ho (by simp[kindOf]),h.mem.len,h.mem.ne,h.mem.pos,h.mem.top⟩,
  gU h.box hg ho (by simp[kindOf]),lW h.parts hg ho (by simp[kindOf]),fun j hj=>?_,?_,h.nodup⟩
 ·by_cases e:j=i
  ·subst e;rw[if_pos rfl];exact ht.st
  ·rw[if_neg e]
   exact(h.sets j hj).kept hg (fun e2=>e (h.nodup j i hj hi (Option.some.inj e2)))
 ·obtain⟨es,ck,hm⟩:=h.refs.isMap
  refine h.refs.same (hg.block _ h.refs.lt (fun e=>Hq hm ho (by simp[kindOf]) (Option.some.inj e)))
theorem jq.acX{w w':World}{X:bD}{L L':List Int}{R:Nat→Nat}{F:Nat→List Nat}(h:jq w X L R F)(hp:Puts w w' X.mp X.fb X.n L'):jq w' X L' R F:=by
 have ho:=h.mem.row
 have hg:=hp.grown
 refine⟨hp.st,gU h.box hg ho (by simp[kindOf]),lW h.parts hg ho (by simp[kindOf]),fun j hj=>⟨(h.sets j hj).good,gU (h.sets j hj).box hg ho (by simp[kindOf])⟩,?_,h.nodup⟩
 obtain⟨es,ck,hm⟩:=h.refs.isMap
 exact h.refs.same (hg.block _ h.refs.lt (fun e=>Hq hm ho (by simp[kindOf]) (Option.some.inj e)))
theorem jq.c0{w:World}{X:bD}{L:List Int}{R:Nat→Nat}{F:Nat→List Nat}(h:jq w X L R F):w.cell? ⟨X.pb,0,none⟩=some (.pointer (some ⟨X.mp,0,none⟩)):=by rw[cell_of_row w _ _ _ _ _ h.box];rfl
theorem jq.c1{w:World}{X:bD}{L:List Int}{R:Nat→Nat}{F:Nat→List Nat}(h:jq w X L R F):w.cell? ⟨X.pb,1,none⟩=some X.v:=by rw[cell_of_row w _ _ _ _ _ h.box];rfl
theorem jq.c2{w:World}{X:bD}{L:List Int}{R:Nat→Nat}{F:Nat→List Nat}(h:jq w X L R F):w.cell? ⟨X.pb,2,none⟩=some (.map (some X.mb)):=by rw[cell_of_row w _ _ _ _ _ h.box];rfl
theorem Ku{n:Nat}{P:List (Nat×Nat)}{R:Nat→Nat}(h:lC n P R)(x:Int):eH P R x=0∨eH P R x=2∨eH P R x=4:=by
 rcases vI h x with⟨_,he,_⟩|⟨_,_,_,_,_,_,_,_,_,he⟩|⟨_,_,_,_,_,_,_,_,_,_,he⟩
 ·exact Or.inr (Or.inl he)
 ·exact Or.inr (Or.inr he)
 ·exact Or.inl he
theorem BU{n:Nat}{P:List (Nat×Nat)}{R:Nat→Nat}(h:lC n P R)(x:Int)(h0:eH P R x=0):∃y i:Nat,x=y∧y<n∧i<P.length∧iI P x=((i:Int),0)∧vY (P.getD i (0,0)) (y:Int)=true∧R y≠0∧R y≤64∧rT R x=(R y:Int):=by
 rcases vI h x with⟨_,he,_⟩|⟨_,_,_,_,_,_,_,_,_,he⟩|⟨y,i,h1,h2,h3,h4,h5,h6,h7,h8,_⟩
 ·rw[he]at h0;cases h0
 ·rw[he]at h0;cases h0
 ·exact⟨y,i,h1,h2,h3,h4,h5,h6,h7,h8⟩
set_option maxHeartbeats 1000000 in
theorem Sj(X:bD)(L:List Int)(R:Nat→Nat)(x:Int)(w:World)(h:aK w X L R)(hx:I64 x):Calls Tryz.prog 162 #[.pointer (some ⟨X.pb,0,none⟩), .int .i64 x] w fun e w'=>e= .returned (.int .i64 (jI X.P R x))∧Moves w w' X L (nQ X.P R x):=by
 have H:=Lib.hid h
 rcases Ku h.fit x with he|he
 ·obtain⟨y,i,rfl,hy,hi,ho,hin,hr,hr2,NQ⟩:=BU h.fit x he
  have HE:=Lib.hid he
  have HA:=Lib.hid (show(if(0:Int)=0 then(iI X.P (y:Int)).1 else 0)=(i:Int) by rw[ho];rfl)
  have hy2:y<1024:=by have:=h.fit.top;omega
  have HR:=Lib.hid NQ
  by_cases h64:R y=64
  ·have E:Hid (jI X.P R (y:Int)=3∧nQ X.P R (y:Int)=R):=Lib.hid (by
    have:jI X.P R (y:Int)=3:=by simp[jI,he,NQ,h64]
    exact⟨this,by simp[nQ,this]⟩)
   rw[h64]at HR
   clear h he hr hr2 NQ ho hin hi h64
   go_enter Tryz.func162,Tryz.ntmps162
   go_wp2_with(first
    |(go_at_call 203;refine(uz HE.out HA.out H.out hx).mono ?_;rintro e w' ⟨rfl,hb⟩;have B:=Lib.hid hb;have H1:=Lib.hid (H.out.below hb);have c2:=(H.out.below hb).c2;clear hb)
    |(at_lookup;refine dH _ rfl _ _ rfl X.mb R rfl H1.out.refs _ 64 rfl hx HR.out ?_))
   go_ret
   exact⟨by rw[E.out.1];rfl,by rw[E.out.2];exact Moves.stay H.out B.out⟩
  ·have E:Hid (jI X.P R (y:Int)=0∧nQ X.P R (y:Int)=upd R y (R y+1)):=Lib.hid (by
    have:jI X.P R (y:Int)=0:=by simp[jI,he,NQ];omega
    exact⟨this,by simp[nQ,this]⟩)
   have FF:Hid (lC X.n X.P (upd R y (R y+1))∧∀i,i<X.T.length→bL (X.T.getD i default).2 R=bL (X.T.getD i default).2 (upd R y (R y+1))):=Lib.hid
    ⟨h.fit.upd i y _ hi hin (by omega),fun j _=>(qH _ _ _ _ hr (by omega)).symm⟩
   rw[E.out.1,E.out.2]
   clear E
   generalize R y=q at*
   have hne:((q:Int)==64)=false:=by simp;omega
   clear h he hr NQ ho hin hi
   go_enter Tryz.func162,Tryz.ntmps162
   go_wp2_with(first
    |(go_at_call 203;refine(uz HE.out HA.out H.out hx).mono ?_;rintro e w1 ⟨rfl,hb⟩;have B:=Lib.hid hb;have H1:=Lib.hid (H.out.below hb);have c2:=(H.out.below hb).c2;clear hb)
    |(at_lookup;refine dH _ rfl _ _ rfl X.mb R rfl H1.out.refs _ (q:Int) rfl hx HR.out ?_)
    |(at_mapUpdate;refine mJ _ rfl _ _ _ rfl X.mb R rfl H1.out.refs y (q+1) rfl hy2 (by first|rfl|simp) (by omega) ?_;intro w2 hr2 hg;have G:=Lib.hid (jq.map H1.out.toG hg hr2);have O:=Lib.hid ((Only.below B.out).trans (Only.grown (B:=X.blocks) hg (Or.inr (Or.inl rfl))));clear hr2 hg))
   go_ret
   exact⟨rfl,G.out.NR FF.out.1 FF.out.2,O.out⟩
 ·have E:Hid (jI X.P R x=eH X.P R x∧nQ X.P R x=R):=Lib.hid (by
   have:=Kn h.fit (x:=x) (by rcases he with e|e<;>rw[e]<;>decide)
   exact⟨this.1,this.2.1⟩)
  rw[E.out.1,E.out.2]
  have HA:Hid ((if eH X.P R x=0 then(iI X.P x).1 else 0)=0):=Lib.hid (by rcases he with e|e<;>rw[e]<;>rfl)
  obtain⟨q,hq⟩:∃q,eH X.P R x=q:=⟨_,rfl⟩
  rw[hq]at he HA ⊢
  have HE:=Lib.hid hq
  clear h E hq
  rcases he with rfl|rfl
  all_goals
   go_enter Tryz.func162,Tryz.ntmps162
   go_wp2_with(go_at_call 203;refine(uz HE.out HA.out H.out hx).mono ?_;rintro e w' ⟨rfl,hb⟩;have B:=Lib.hid hb;clear hb)
   go_ret
   exact⟨rfl,Moves.stay H.out B.out⟩
theorem Ww{n:Nat}{P:List (Nat×Nat)}{R:Nat→Nat}{x:Int}(h:lC n P R)(he:eH P R x=2∨eH P R x=4):l9 P R x=R:=(Kn h (by rcases he with e|e<;>rw[e]<;>decide)).2.2
set_option maxHeartbeats 1000000 in
theorem Wx(X:bD)(L:List Int)(R:Nat→Nat)(x:Int)(w:World)(h:aK w X L R)(hx:I64 x):Calls Tryz.prog 143 #[.pointer (some ⟨X.pb,0,none⟩), .int .i64 x] w fun e w'=>e= .returned (.int .i64 (eH X.P R x))∧Moves w w' X L (l9 X.P R x):=by
  have H:=Lib.hid h
  rcases Ku h.fit x with he|he
  · obtain ⟨y,i,rfl,hy,hi,ho,hin,hr,hr2,NQ⟩:=BU h.fit x he
    have HE:=Lib.hid he
    have HA:=Lib.hid (show(if(0:Int)=0 then(iI X.P (y:Int)).1 else 0)=(i:Int) by rw[ho];rfl)
    have hy2:y<1024:=by have:=h.fit.top;omega
    have HR:=Lib.hid NQ
    have E:l9 X.P R (y:Int)=upd R y (R y-1):=by simp[l9,he]
    rw[he,E]
    by_cases h1:R y=1
    · have UF:i<X.T.length:=by rw[←X.iJ];exact hi
      have hrow:=BP X.T i UF
      rw[show(X.T.map (·.2))=X.P from rfl]at hrow
      obtain⟨t,ht⟩:∃t,X.T.getD i default=t:=⟨_,rfl⟩
      obtain⟨s,f,m⟩:=t
      have af2:f≤y∧y<f+m:=by
        rw[hrow,ht]at hin
        have:=(mZ _ _).1 hin
        simp only at this
        omega
      obtain⟨hn,abw⟩:=BO (f,m) R y af2 (by omega)
      have FF:Hid (lC X.n X.P (upd R y 0)∧∀j,j<X.T.length→(if j=i then ins (bL (f,m) R) y else bL (X.T.getD j default).2 R)=bL (X.T.getD j default).2 (upd R y 0)):=Lib.hid
        ⟨h.fit.upd i y _ hi hin (by omega),fun j hj=>by
          by_cases e:j=i
          · subst e;rw[if_pos rfl,ht];exact abw.symm
          · rw[if_neg e,←BP X.T j hj];exact(h.fit.Km i y 0 hi hin j (by rw[X.iJ];exact hj) e).symm⟩
      have PE:Hid (BJ (bL (f,m) R) (y:Int)=0∧BK (bL (f,m) R) (y:Int)=ins (bL (f,m) R) y):=Lib.hid (by
        have h5:wK (y:Int)=true:=(pR _).2 (by omega)
        exact⟨by simp[BJ,h5,hn],by simp[BK,h5,hn]⟩)
      have NB:Hid (i<X.T.length):=Lib.hid UF
      have TT:=Lib.hid ht
      have Pw:=h.many
      rw[h1]
      rw[h1]at HR
      have hi8:i<X.T.length:=UF
      clear h he E hr hr2 NQ ho hin hi h1 hrow af2 hn abw UF ht
      go_enter Tryz.func143,Tryz.ntmps143
      go_wp2_with(first
        |(go_at_call 203;refine(uz HE.out HA.out H.out hx).mono ?_;rintro e w1 ⟨rfl,hb⟩;have B:=Lib.hid hb;have H1:=Lib.hid (H.out.below hb);have c2:=(H.out.below hb).c2;clear hb)
        |(at_lookup;refine dH _ rfl _ _ rfl X.mb R rfl H1.out.refs _ 1 rfl hx HR.out ?_)
        | (at_delete;refine xY _ rfl _ _ rfl X.mb R rfl H1.out.refs y rfl hy2 ?_;intro w2 hr2 hg;have G:=Lib.hid (jq.map H1.out.toG hg hr2);have O:=Lib.hid ((Only.below B.out).trans (Only.grown (B:=X.blocks) hg (Or.inr (Or.inl rfl))));clear hr2 hg c2
           obtain⟨g,c,s',f',m',hv,_,hrow',e0,_,_⟩:=pW G.out.parts i NB.out
           obtain⟨rfl,rfl,rfl⟩:s'=s∧f'=f∧m'=m:=by rw[TT.out]at hrow';cases hrow';exact⟨rfl,rfl,rfl⟩
           have c1:=G.out.c1
           have S2:=G.out.sets i NB.out
           simp only[TT.out]at S2
           have S2:=Lib.hid S2
           rw[hv]at c1
           clear hv hrow')
        |(go_at_call 177;refine(Pm _ _ _ _ S2.out).mono ?_;rw[PE.out.1,PE.out.2];rintro e w3 ⟨rfl,ht⟩;have T3:=Lib.hid (TT.out▸ht:Turn w2 w3 (X.T.getD i default).1 (ins (bL (f',m') R) y));clear ht))
      go_ret
      exact⟨rfl,(G.out.set i NB.out _ T3.out).NR FF.out.1 FF.out.2,O.out.trans (Only.grown T3.out.grown (Or.inr (Or.inr (Wv NB.out))))⟩
    · have FF:Hid (lC X.n X.P (upd R y (R y-1))∧∀i,i<X.T.length→bL (X.T.getD i default).2 R=bL (X.T.getD i default).2 (upd R y (R y-1))):=Lib.hid
        ⟨h.fit.upd i y _ hi hin (by omega),fun j _=>(qH _ _ _ _ hr (by omega)).symm⟩
      obtain⟨q,hq⟩:∃q,R y=q+2:=⟨R y-2,by omega⟩
      rw[hq]at HR FF ⊢
      rw[show q+2-1=q+1 by omega]at FF ⊢
      have hq2:q≤62:=by omega
      rw[show((q+2:Nat):Int)=(q:Int)+2 by omega]at HR
      have hgt:decide ((1:Int)<(q:Int)+2)=true:=decide_eq_true (by omega)
      clear h he E hr hr2 NQ ho hin hi h1 hq
      go_enter Tryz.func143,Tryz.ntmps143
      go_wp2_with(first
        |(go_at_call 203;refine(uz HE.out HA.out H.out hx).mono ?_;rintro e w1 ⟨rfl,hb⟩;have B:=Lib.hid hb;have H1:=Lib.hid (H.out.below hb);have c2:=(H.out.below hb).c2;clear hb)
        |(at_lookup;refine dH _ rfl _ _ rfl X.mb R rfl H1.out.refs _ ((q:Int)+2) rfl hx HR.out ?_)
        |(at_mapUpdate;refine mJ _ rfl _ _ _ rfl X.mb R rfl H1.out.refs y (q+1) rfl hy2 (by simp[go_sem];omega) (by omega) ?_;intro w2 hr2 hg;have G:=Lib.hid (jq.map H1.out.toG hg hr2);have O:=Lib.hid ((Only.below B.out).trans (Only.grown (B:=X.blocks) hg (Or.inr (Or.inl rfl))));clear hr2 hg))
      go_ret
      exact⟨rfl,G.out.NR FF.out.1 FF.out.2,O.out⟩
  · have E:Hid (l9 X.P R x=R):=Lib.hid (Ww h.fit he)
    rw[E.out]
    have HA:Hid ((if eH X.P R x=0 then(iI X.P x).1 else 0)=0):=Lib.hid (by rcases he with e|e<;>rw[e]<;>rfl)
    obtain⟨q,hq⟩:∃q,eH X.P R x=q:=⟨_,rfl⟩
    rw[hq]at he HA ⊢
    have HE:=Lib.hid hq
    clear h E hq
    rcases he with rfl|rfl
    all_goals
      go_enter Tryz.func143,Tryz.ntmps143
      go_wp2_with(go_at_call 203;refine(uz HE.out HA.out H.out hx).mono ?_;rintro e w' ⟨rfl,hb⟩;have B:=Lib.hid hb;clear hb)
      go_ret
      exact⟨rfl,Moves.stay H.out B.out⟩
end Go.Proofs.YtammlljefhakmaaGreatDoor
namespace Go.Proofs.YtammlljefhakmaaGreatDoor
open Go.RowKit
set_option maxRecDepth 100000
set_option maxHeartbeats 1000000 in
theorem Sk(X:bD)(L:List Int)(R:Nat→Nat)(k:Int)(w:World)(h:aK w X L R)(hT:jm w):Calls Tryz.prog 185 #[.pointer (some ⟨X.pb,0,none⟩), .int .i64 k] w fun e w'=>e= .returned (.tuple #[.int .i64 (dG X.P R k).1, .int .i64 (dG X.P R k).2])∧Moves w w' X (fO X.P R k L) (gy X.P R k):=by
  have H:=Lib.hid h
  have HT:=Lib.hid hT
  cases hk:gI X.P k with
  | false=>
    rw[show dG X.P R k=(0,2) by simp[dG,hk],show fO X.P R k L=L by simp[fO,hk],show gy X.P R k=R by simp[gy,hk]]
    have HK:=Lib.hid hk
    clear h hT hk
    go_enter Tryz.func185,Tryz.ntmps185
    go_wp2_with(go_at_call 83;refine(Wq X L R k _ H.out HK.out).mono ?_;rintro e w' ⟨rfl,hb⟩;have B:=Lib.hid (hb.alloc hb.size (.cells #[.pointer none, .int .i64 0, .int .i64 0] 148));clear hb)
    go_ret2
    exact⟨rfl,Moves.stay H.out B.out⟩
  | true=>
    have h1:=(ny _ _).1 hk
    rw[X.iJ]at h1
    obtain⟨i,rfl⟩:=Int.eq_ofNat_of_zero_le h1.1
    have UF:i<X.T.length:=by omega
    obtain⟨t,ht⟩:∃t,X.T.getD i default=t:=⟨_,rfl⟩
    obtain⟨s,f,m⟩:=t
    have hs:=h.sets i UF
    rw[ht]at hs
    have hP:X.P.getD i (0,0)=(f,m):=by rw[bD.P,BP X.T i UF,ht]
    have NB:=Lib.hid UF
    have TT:=Lib.hid ht
    have S:=Lib.hid hs
    cases hF:bL (f,m) R with
    | nil=>
      rw[show dG X.P R i=(0,3) by simp only[dG,hk,if_true,Int.toNat_natCast,hP,hF],show fO X.P R i L=L by simp only[fO,hk,if_true,Int.toNat_natCast,hP,hF],show gy X.P R i=R by simp only[gy,hk,if_true,Int.toNat_natCast,hP,hF]]
      have FF:Hid (∀j,j<X.T.length→(if j=i then[]else bL (X.T.getD j default).2 R)=bL (X.T.getD j default).2 R):=Lib.hid (fun j _=>by
        by_cases e:j=i
        · subst e;rw[if_pos rfl,ht,hF]
        · rw[if_neg e])
      rw[hF]at S
      clear h hT hk h1 UF ht hs hP hF
      go_enter Tryz.func185,Tryz.ntmps185
      go_wp2_with(first
        |(go_at_call 83;refine(Ws X L R i s f m _ H.out NB.out TT.out).mono ?_;rintro e w1 ⟨rfl,hb⟩;have B:=Lib.hid (hb.alloc hb.size (.cells #[.pointer (some ⟨s,0,none⟩), .int .i64 (f:Int), .int .i64 (m:Int)] 148));clear hb)
        |(go_at_call 221;refine(Pv s [] _ (S.out.below B.out) (HT.out.below B.out)).mono ?_;rw[show takeA []=(0,4,[])from rfl];rintro e w2 ⟨rfl,ht⟩;have T2:=Lib.hid ht;clear ht))
      go_ret2
      refine⟨rfl,((H.out.below B.out).toG.set i NB.out [] (by rw[TT.out];exact T2.out)).NR H.out.fit FF.out,(Only.below B.out).trans (Only.grown T2.out.grown (Or.inr (Or.inr ?_)))⟩
      have:=Wv NB.out
      rwa [TT.out]at this
    | cons x r=>
      rw[show dG X.P R i=((x:Int),0) by simp only[dG,hk,if_true,Int.toNat_natCast,hP,hF],show fO X.P R i L=putRow L x zeros by simp only[fO,hk,if_true,Int.toNat_natCast,hP,hF],show gy X.P R i=upd R x 1 by simp only[gy,hk,if_true,Int.toNat_natCast,hP,hF]]
      have hx:=(fC (f,m) R x).1 (by rw[hF];simp)
      have hi:i<X.P.length:=by rw[X.iJ];exact UF
      have hin:vY (X.P.getD i (0,0)) (x:Int)=true:=by rw[hP,mZ];simp only;omega
      have FF:Hid (lC X.n X.P (upd R x 1)∧∀j,j<X.T.length→(if j=i then r else bL (X.T.getD j default).2 R)=bL (X.T.getD j default).2 (upd R x 1)):=Lib.hid
        ⟨h.fit.upd i x 1 hi hin (by omega),fun j hj=>by
          by_cases e:j=i
          · subst e;rw[if_pos rfl,ht];exact(BN _ _ _ _ _ hF (by omega)).symm
          · rw[if_neg e,←BP X.T j hj];exact(h.fit.Km i x 1 hi hin j (by rw[X.iJ];exact hj) e).symm⟩
      have XN:Hid (x<X.n):=Lib.hid (by
        have:=(h.fit.rng i hi).2
        rw[hP]at this
        simp only at this hx
        omega)
      have hx2:x<1024:=by have:=XN.out;have:=h.fit.top;omega
      have MT:=Lib.hid (Wv UF)
      rw[ht]at MT
      rw[hF]at S
      clear h hT hk h1 UF ht hs hP hF hx hi hin
      go_enter Tryz.func185,Tryz.ntmps185
      go_wp2_with(first
        |(go_at_call 83;refine(Ws X L R i s f m _ H.out NB.out TT.out).mono ?_;rintro e w1 ⟨rfl,hb⟩;have B:=Lib.hid (hb.alloc hb.size (.cells #[.pointer (some ⟨s,0,none⟩), .int .i64 (f:Int), .int .i64 (m:Int)] 148));clear hb)
        | (go_at_call 221;refine(Pv s (x::r) _ (S.out.below B.out) (HT.out.below B.out)).mono ?_;rw[show takeA (x::r)=((x:Int),0,r)from rfl];rintro e w2 ⟨rfl,ht⟩
           have O2:=Lib.hid ((Only.below B.out).trans (Only.grown (B:=X.blocks) ht.grown (Or.inr (Or.inr MT.out))))
           have G2:=Lib.hid ((H.out.below B.out).toG.set i NB.out r (by rw[TT.out];exact ht))
           have c2:=G2.out.c2
           clear ht)
        | (at_mapUpdate;refine mJ _ rfl _ _ _ rfl X.mb R rfl G2.out.refs x 1 rfl hx2 rfl (by omega) ?_;intro w3 hr3 hg
           have O3:=Lib.hid (O2.out.trans (Only.grown hg (Or.inr (Or.inl rfl))))
           have G3:=Lib.hid (G2.out.map hg hr3)
           have c0:=G3.out.c0
           clear hr3 hg c2)
        | (go_at_call 222;refine(Y7 X.mp X.fb X.n x L _ G3.out.mem XN.out).mono ?_;rintro e w4 ⟨rfl,hp⟩
           have O4:=Lib.hid (O3.out.trans (Only.grown hp.grown (Or.inl rfl)))
           have G4:=Lib.hid (G3.out.acX hp)
           clear hp))
      go_ret2
      exact⟨rfl,G4.out.NR FF.out.1 FF.out.2,O4.out⟩
theorem Ca{X:bD}{R R':Nat→Nat}{L L':List Int}{k a e:Int}(ha:dG X.P R k=(a,e))(hl:fO X.P R k L=L')(hr:gy X.P R k=R'){w:World}(h:aK w X L R)(hT:jm w):Calls Tryz.prog 185 #[.pointer (some ⟨X.pb,0,none⟩), .int .i64 k] w fun e' w'=>e'= .returned (.tuple #[.int .i64 a, .int .i64 e])∧Moves w w' X L' R':=by
 have:=Sk X L R k w h hT
 rwa [ha,hl,hr]at this
theorem Wy{X:bD}{R R':Nat→Nat}{L:List Int}{x e:Int}(he:jI X.P R x=e)(hr:nQ X.P R x=R'){w:World}(h:aK w X L R)(hx:I64 x):Calls Tryz.prog 162 #[.pointer (some ⟨X.pb,0,none⟩), .int .i64 x] w fun e' w'=>e'= .returned (.int .i64 e)∧Moves w w' X L R':=by
 subst he hr;exact Sj X L R x w h hx
theorem Px{X:bD}{R R':Nat→Nat}{L:List Int}{x e:Int}(he:eH X.P R x=e)(hr:l9 X.P R x=R'){w:World}(h:aK w X L R)(hx:I64 x):Calls Tryz.prog 143 #[.pointer (some ⟨X.pb,0,none⟩), .int .i64 x] w fun e' w'=>e'= .returned (.int .i64 e)∧Moves w w' X L R':=by
 subst he hr;exact Wx X L R x w h hx
end Go.Proofs.YtammlljefhakmaaGreatDoor
