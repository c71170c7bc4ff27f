/- Helps of the proof. No condition. -/
import Derived.Test.YtammlljefhakmaaGreatDoorGK1
namespace Go.Proofs.YtammlljefhakmaaGreatDoor
open Go.RowKit Go.Maps
set_option maxRecDepth 100000
structure lS(D:DataW Unit)(R:Nat→Nat):Prop where
 at_:∀x:Int,D.atKey (.int .i64 x) (.lit (.int .i64 0))= .lit (.int .i64 (ru R x))
 frames:Frames D
theorem lS.empty:lS (.map []) (fun _=>0):=⟨fun x=>by simp[ru];rfl,[],rfl,List.Pairwise.nil,fun p hp=>by simp at hp⟩
theorem Ji(R:Nat→Nat)(x v:Nat)(y:Int):ru (upd R x v) y=if y=(x:Int)then(v:Int)else ru R y:=by
 unfold ru
 by_cases h0:0≤y
 ·obtain⟨y,rfl⟩:=Int.eq_ofNat_of_zero_le h0
  rw[if_pos h0,if_pos h0,Int.toNat_natCast]
  by_cases e:y=x
  ·subst e;rw[upd_same,if_pos rfl]
  ·rw[aF _ _ _ _ e,if_neg (by omega)]
 ·rw[if_neg h0,if_neg h0,if_neg (by omega)]
theorem lS.put{D:DataW Unit}{R:Nat→Nat}(h:lS D R)(x v:Nat)(hx:x<1024):lS (D.put (.int .i64 (x:Int)) (.lit (.int .i64 (v:Int)))) (upd R x v):=
 ⟨fun y=>by
  rw[Ji]
  by_cases e:y=(x:Int)
  ·subst e;rw[if_pos rfl,atKey_put_same h.frames.isMap (Ab _ (by omega))]
  ·rw[if_neg e,atKey_put_other (rG e),h.at_],h.frames.put x hx _⟩
theorem lS.del{D:DataW Unit}{R:Nat→Nat}(h:lS D R)(x:Nat):lS (D.del (.int .i64 (x:Int))) (upd R x 0):=
 ⟨fun y=>by
  rw[Ji]
  by_cases e:y=(x:Int)
  ·subst e;rw[if_pos rfl,atKey_del_same];rfl
  ·rw[if_neg e,atKey_del_other (rG e),h.at_],h.frames.del _⟩
def gW(w:World)(b:Nat)(R:Nat→Nat):Prop:=∃(D:DataW Unit) (k:Nat),w.ownsMap Tryz.prog 3 (plainElem Tryz.prog 3) b k D∧k≤1024∧lS D R
theorem Mi{w:World}{b k:Nat}{D:DataW Unit}(h:w.ownsMap Tryz.prog 3 (plainElem Tryz.prog 3) b k D)(m:Nat)(hm:Maps.size D≤m):w.ownsMap Tryz.prog 3 (plainElem Tryz.prog 3) b m D:=by
 obtain⟨es,clock,hb,F,_,rfl⟩:=h
 refine⟨es,clock,hb,F,?_,rfl⟩
 simpa[Maps.size,length_sorted]using hm
theorem gW.made(w:World):gW (w.alloc (.map #[] 0)) w.heap.size (fun _=>0):=⟨_,0,World.ownsMap_made _ _ _ _,by omega,lS.empty⟩
theorem gW.isMap{w:World}{b:Nat}{R:Nat→Nat}(h:gW w b R):∃es clock,w.heap[b]? =some (.map es clock):=by
 obtain⟨D,k,⟨es,clock,hb,_⟩,_⟩:=h
 exact⟨es,clock,hb⟩
theorem gW.lt{w:World}{b:Nat}{R:Nat→Nat}(h:gW w b R):b<w.heap.size:=by
 obtain⟨es,clock,hb⟩:=h.isMap
 exact lt_of_block hb
theorem gW.same{w w':World}{b:Nat}{R:Nat→Nat}(h:gW w b R)(e:w'.heap[b]? =w.heap[b]?):gW w' b R:=by
 obtain⟨D,k,⟨es,clock,hb,r⟩,hk,hr⟩:=h
 exact⟨D,k,⟨es,clock,e.trans hb,r⟩,hk,hr⟩
section
variable (w:World) {ops:Array Oper} {rest:List Oper} {o:Oper} {a:Act} {Q:Exit→Act→World→Prop}
theorem dB(hg:o.guard=none)(m x:Operand)(hop:o.op=Op.lookup 112 m x false)(b:Nat)(R:Nat→Nat)(hm:a.eval m= .map (some b))(h:gW w b R)(y c:Int)(hx:a.eval x= .int .i64 y)(hy: -9223372036854775808≤y∧y≤9223372036854775807)(hc:ru R y=c)
  (hK:wpList Tryz.prog ops Q rest (a.put o.dst (.int .i64 c)) w):wpList Tryz.prog ops Q (o::rest) a w:=by
 obtain⟨D,k,hown,_,hr⟩:=h
 refine wpList_lookup_own_int _ hg m x 112 hop 3 3 .i64 qh Tryz.underlying112 Tryz.underlying3 (acp _) b k D hm hown (.int .i64 y) (.int .i64 y) hx (gB y hy) fun d hd _=>?_
 rw[hr.at_ y]at hd
 have e:ru R y=d:=by cases hd;rfl
 rw[←e,hc];exact hK
theorem mo(hg:o.guard=none)(m x v:Operand)(hop:o.op=Op.mapUpdate 112 m x v)(b:Nat)(R:Nat→Nat)(hm:a.eval m= .map (some b))(h:gW w b R)(y c:Nat)(hx:a.eval x= .int .i64 (y:Int))(hy:y<1024)(hv:a.eval v= .int .i64 (c:Int))(hc:c≤9223372036854775807)
  (hK:∀w',gW w' b (upd R y c)→w.grownBy w' (some b)→wpList Tryz.prog ops Q rest (a.put o.dst undef) w'):wpList Tryz.prog ops Q (o::rest) a w:=by
 obtain⟨D,k,hown,hk,hr⟩:=h
 refine wpList_mapUpdate_own _ hg m x v 112 hop 3 3 qh Tryz.underlying112 _ b k D hm hown (by unfold maxLen;omega) (.int .i64 (y:Int)) (.int .i64 (c:Int)) (.int .i64 (y:Int)) hx hv (gB _ (by omega)) (.lit (.int .i64 (c:Int))) [] (plainElem_int Tryz.underlying3 (wfI _ (by omega))) fun w' h1 h2=>?_
 have hr':=hr.put y c hy
 exact hK w' ⟨_,1024,Mi h1 1024 hr'.frames.size,Nat.le_refl _,hr'⟩ h2
theorem xI(hg:o.guard=none)(m x:Operand)(hop:o.op=Op.call { callee:=Callee.builtin Builtin.delete,args:=#[m,x],argTypes:=#[112,3] })(b:Nat)(R:Nat→Nat)(hm:a.eval m= .map (some b))(h:gW w b R)(y:Nat)(hx:a.eval x= .int .i64 (y:Int))(hy:y<1024)
  (hK:∀w',gW w' b (upd R y 0)→w.grownBy w' (some b)→wpList Tryz.prog ops Q rest (a.put o.dst (.tuple #[])) w'):wpList Tryz.prog ops Q (o::rest) a w:=by
 obtain⟨D,k,hown,hk,hr⟩:=h
 refine wpList_delete_own _ hg m x 112 3 hop 3 qh Tryz.underlying112 _ b k D hm hown (.int .i64 (y:Int)) (.int .i64 (y:Int)) hx (gB _ (by omega)) fun w' h1 h2=>?_
 exact hK w' ⟨_,k,h1,hk,hr.del y⟩ h2.grown
end
end Go.Proofs.YtammlljefhakmaaGreatDoor
namespace Go.Proofs.YtammlljefhakmaaGreatDoor
open Go.RowKit
set_option maxRecDepth 100000
structure bA where
 pb:Nat
 mp:Nat
 fb:Nat
 mb:Nat
 base:Nat
 n:Nat
 v:Value
 T:List (Nat×(Nat×Nat))
 
 kw:Nat→Nat→Int
def bA.P(X:bA):List (Nat×Nat):=X.T.map (·.2)
theorem bA.iG(X:bA):X.P.length=X.T.length:=by simp[bA.P]
theorem AZ(T:List (Nat×(Nat×Nat)))(i:Nat)(h:i<T.length):(T.map (·.2)).getD i (0,0)=(T.getD i default).2:=by
 simp[List.getD_eq_getElem?_getD,h]
def bA.blocks(X:bA)(k:Nat):Prop:=k=X.fb∨k=X.mb∨k∈X.T.map (·.1)
def bA.all(X:bA)(k:Nat):Prop:=X.blocks k∨k=X.pb∨k=X.mp∨X.v.ownBlock=some k
def jD(T:List (Nat×(Nat×Nat))):List Value:=T.flatMap fun t=>[.pointer (some ⟨t.1,0,none⟩), .int .i64 (t.2.1:Int), .int .i64 (t.2.2:Int)]
theorem Jj(T:List (Nat×(Nat×Nat)))(t:Nat×(Nat×Nat)):jD (T++[t])=jD T++[.pointer (some ⟨t.1,0,none⟩), .int .i64 (t.2.1:Int), .int .i64 (t.2.2:Int)]:=by simp[jD]
theorem Ba:∀(T:List (Nat×(Nat×Nat))) (i:Nat),i<T.length→(jD T)[i*3]? =some (.pointer (some ⟨(T.getD i default).1,0,none⟩))∧(jD T)[i*3+1]? =some (.int .i64 ((T.getD i default).2.1:Int))∧(jD T)[i*3+2]? =some (.int .i64 ((T.getD i default).2.2:Int))
 |[],i,h=>by simp at h
 |t::r,0,_=>⟨rfl,rfl,rfl⟩
 | t::r,i+1,h=>by
  have e:jD (t::r)=[.pointer (some ⟨t.1,0,none⟩), .int .i64 (t.2.1:Int), .int .i64 (t.2.2:Int)]++jD r:=rfl
  have h1:=Ba r i (by simpa using h)
  have g:∀j,(jD (t::r))[(i+1)*3+j]? =(jD r)[i*3+j]? :=fun j=>by
   rw[e,List.getElem?_append_right (by simp;omega)]
   congr 1
   simp;omega
  refine⟨(g 0).trans ?_,(g 1).trans ?_,(g 2).trans ?_⟩
  ·simpa using h1.1
  ·simpa using h1.2.1
  ·simpa using h1.2.2
structure aK(w:World)(X:bA)(L:List Int)(R:Nat→Nat):Prop where
 mem:bS w X.mp X.fb X.n L
 box:w.heap[X.pb]? =some (.cells #[.pointer (some ⟨X.mp,0,none⟩),X.v, .map (some X.mb)] 115 (0,0))
 parts:w.ownsRow X.base 148 3 X.v X.T.length (jD X.T)
 sets:∀i,i<X.T.length→dP w (X.T.getD i default).1 (bK (X.T.getD i default).2 R)
 refs:gW w X.mb R
 fit:kZ X.n X.P R
 nodup:∀i j,i<X.T.length→j<X.T.length→(X.T.getD i default).1=(X.T.getD j default).1→i=j
structure Moves(w w':World)(X:bA)(L:List Int)(R:Nat→Nat):Prop where
 st:aK w' X L R
 only:Only w w' X.blocks
theorem aK.kept{w w':World}{X:bA}{L:List Int}{R:Nat→Nat}{B:Nat→Prop}(h:aK w X L R)(hw:Only w w' B)(hB:∀k,X.all k→¬B k):aK w' X L R:=
  ⟨⟨hw.kept h.mem.box (hB _ (Or.inr (Or.inr (Or.inl rfl)))),hw.kept h.mem.row (hB _ (Or.inl (Or.inl rfl))),h.mem.len,h.mem.ne,h.mem.pos,h.mem.top⟩,
   hw.kept h.box (hB _ (Or.inr (Or.inl rfl))),iM h.parts hw (fun g hg=>hB _ (Or.inr (Or.inr (Or.inr hg)))),
   fun i hi=>⟨(h.sets i hi).good,hw.kept (h.sets i hi).box (hB _ (Or.inl (Or.inr (Or.inr (List.mem_map.2 ⟨X.T.getD i default,by rw[List.getD_eq_getElem?_getD,List.getElem?_eq_getElem hi];exact List.getElem_mem hi,rfl⟩)))))⟩,
   h.refs.same (hw.block _ h.refs.lt (hB _ (Or.inl (Or.inr (Or.inl rfl))))),h.fit,h.nodup⟩
theorem aK.below{w w':World}{X:bA}{L:List Int}{R:Nat→Nat}(h:aK w X L R)(hb:Below w.heap.size w w'):aK w' X L R:=
 h.kept (B:=fun _=>False) (Only.below hb) (fun _ _=>id)
theorem Moves.stay{w w':World}{X:bA}{L:List Int}{R:Nat→Nat}(h:aK w X L R)(hb:Below w.heap.size w w'):Moves w w' X L R:=⟨h.below hb,Only.below hb⟩
theorem aK.c0{w:World}{X:bA}{L:List Int}{R:Nat→Nat}(h:aK w X L R):w.cell? ⟨X.pb,0,none⟩=some (.pointer (some ⟨X.mp,0,none⟩)):=by rw[cell_of_row w _ _ _ _ _ h.box];rfl
theorem aK.c1{w:World}{X:bA}{L:List Int}{R:Nat→Nat}(h:aK w X L R):w.cell? ⟨X.pb,1,none⟩=some X.v:=by rw[cell_of_row w _ _ _ _ _ h.box];rfl
theorem aK.c2{w:World}{X:bA}{L:List Int}{R:Nat→Nat}(h:aK w X L R):w.cell? ⟨X.pb,2,none⟩=some (.map (some X.mb)):=by rw[cell_of_row w _ _ _ _ _ h.box];rfl
theorem pJ{w:World}{base:Nat}{v:Value}{T:List (Nat×(Nat×Nat))}(h:w.ownsRow base 148 3 v T.length (jD T))(i:Nat)(hi:i<T.length):
  ∃g c s f m,v= .slice (some ⟨g,0,none⟩) T.length c∧g<w.heap.size∧T.getD i default=(s,(f,m))∧w.cell? ⟨g,i*3,none⟩=some (.pointer (some ⟨s,0,none⟩))∧w.cell? ⟨g,i*3+1,none⟩=some (.int .i64 (f:Int))∧w.cell? ⟨g,i*3+2,none⟩=some (.int .i64 (m:Int)):=by
 have h':=h
 rcases h.2 with⟨_,h0⟩|⟨g,cap,cur,rfl,_,hgg,_⟩
 ·omega
 ·obtain⟨a0,a1,a2⟩:=Ba T i hi
  have b0:=h'.cells (g:=g) rfl _ _ a0
  have b1:=h'.cells (g:=g) rfl _ _ a1
  have b2:=h'.cells (g:=g) rfl _ _ a2
  rw[Addr.add_mid,Nat.zero_add]at b0 b1 b2
  generalize T.getD i default=t at*
  obtain⟨s,f,m⟩:=t
  exact⟨g,cap,s,f,m,rfl,lt_of_block hgg,rfl,b0,b1,b2⟩
theorem nG(b mp:Nat)(w:World)(h:w.cell? ⟨b,0,none⟩=some (.pointer (some ⟨mp,0,none⟩))):Calls Tryz.prog 124 #[.pointer (some ⟨b,0,none⟩)] w fun e w'=>e= .returned (.bool true)∧w=w':=by
 go_enter Tryz.func124,Tryz.ntmps124
 go_wp2
 go_ret
 exact⟨rfl,rfl⟩
def kP(f m:Int)(n:Nat):Bool:=decide (0≤f)&&(decide (1≤m)&&(decide (m≤n)&&decide (f≤n-m)))
theorem xJ(f m:Int)(n:Nat):kP f m n=true↔0≤f∧1≤m∧m≤n∧f≤n-m:=by simp[kP]
theorem Jk(f m:Int)(n:Nat)(w:World)(hn:n≤1024):Calls Tryz.prog 121 #[.agg #[.int .i64 f, .int .i64 m], .int .i64 (n:Int)] w fun e w'=>e= .returned (.bool (kP f m n))∧Below w.heap.size w w':=by
 have hb:=(Below.refl w.heap.size w).alloc (Nat.le_refl _) (.cells #[.int .i64 f, .int .i64 m] 64)
 have HB:=Lib.hid hb
 clear hb
 by_cases h0:0≤f
 ·have d0:decide (0≤f)=true:=decide_eq_true h0
  by_cases h1:1≤m
  ·have d1:decide (1≤m)=true:=decide_eq_true h1
   by_cases h2:m≤n
   ·have d2:decide (m≤(n:Int))=true:=decide_eq_true h2
    by_cases h3:f≤n-m
    ·have d3:decide (f≤(n:Int)-m)=true:=decide_eq_true h3
     have E:Hid (kP f m n=true):=Lib.hid (by rw[kP,d0,d1,d2,d3];rfl)
     go_enter Tryz.func121,Tryz.ntmps121
     go_wp2
     go_ret
     exact⟨by rw[E.out];rfl,HB.out⟩
    ·have d3:decide (f≤(n:Int)-m)=false:=decide_eq_false h3
     have E:Hid (kP f m n=false):=Lib.hid (by rw[kP,d0,d1,d2,d3];rfl)
     go_enter Tryz.func121,Tryz.ntmps121
     go_wp2
     go_ret
     exact⟨by rw[E.out];rfl,HB.out⟩
   ·have d2:decide (m≤(n:Int))=false:=decide_eq_false h2
    have E:Hid (kP f m n=false):=Lib.hid (by rw[kP,d0,d1,d2];rfl)
    go_enter Tryz.func121,Tryz.ntmps121
    go_wp2
    go_ret
    exact⟨by rw[E.out];rfl,HB.out⟩
  ·have d1:decide (1≤m)=false:=decide_eq_false h1
   have E:Hid (kP f m n=false):=Lib.hid (by rw[kP,d0,d1];rfl)
   go_enter Tryz.func121,Tryz.ntmps121
   go_wp2
   go_ret
   exact⟨by rw[E.out];rfl,HB.out⟩
 ·have d0:decide (0≤f)=false:=decide_eq_false h0
  have E:Hid (kP f m n=false):=Lib.hid (by rw[kP,d0];rfl)
  go_enter Tryz.func121,Tryz.ntmps121
  go_wp2
  go_ret
  exact⟨by rw[E.out];rfl,HB.out⟩
def oq(p q:Nat×Nat):Bool:=decide ((p.1:Int)<(q.1:Int)+(q.2:Int))&&decide ((q.1:Int)<(p.1:Int)+(p.2:Int))
theorem PZ(p q:Nat×Nat):oq p q=true↔p.1<q.1+q.2∧q.1<p.1+p.2:=by simp[oq];omega
theorem Jl(p q:Nat×Nat)(w:World)(hp:p.1+p.2≤1024)(hq:q.1+q.2≤1024):Calls Tryz.prog 122 #[.agg #[.int .i64 (p.1:Int), .int .i64 (p.2:Int)], .agg #[.int .i64 (q.1:Int), .int .i64 (q.2:Int)]] w fun e w'=>e= .returned (.bool (oq p q))∧Below w.heap.size w w':=by
 obtain⟨f,m⟩:=p
 obtain⟨g,k⟩:=q
 simp only at hp hq ⊢
 have HB:=Lib.hid (((Below.refl w.heap.size w).alloc (Nat.le_refl _) (.cells #[.int .i64 (f:Int), .int .i64 (m:Int)] 64)).alloc (by simp) (.cells #[.int .i64 (g:Int), .int .i64 (k:Int)] 64))
 by_cases h0:(f:Int)<(g:Int)+(k:Int)
 ·have d0:decide ((f:Int)<(g:Int)+(k:Int))=true:=decide_eq_true h0
  by_cases h1:(g:Int)<(f:Int)+(m:Int)
  ·have d1:decide ((g:Int)<(f:Int)+(m:Int))=true:=decide_eq_true h1
   have E:Hid (oq (f,m) (g,k)=true):=Lib.hid (by rw[oq,d0,d1];rfl)
   go_enter Tryz.func122,Tryz.ntmps122
   go_wp2
   go_ret
   exact⟨by rw[E.out];rfl,HB.out⟩
  ·have d1:decide ((g:Int)<(f:Int)+(m:Int))=false:=decide_eq_false h1
   have E:Hid (oq (f,m) (g,k)=false):=Lib.hid (by rw[oq,d0,d1];rfl)
   go_enter Tryz.func122,Tryz.ntmps122
   go_wp2
   go_ret
   exact⟨by rw[E.out];rfl,HB.out⟩
 ·have d0:decide ((f:Int)<(g:Int)+(k:Int))=false:=decide_eq_false h0
  have E:Hid (oq (f,m) (g,k)=false):=Lib.hid (by rw[oq,d0];rfl)
  go_enter Tryz.func122,Tryz.ntmps122
  go_wp2
  go_ret
  exact⟨by rw[E.out];rfl,HB.out⟩
end Go.Proofs.YtammlljefhakmaaGreatDoor
namespace Go.Proofs.YtammlljefhakmaaGreatDoor
open Go.RowKit
set_option maxRecDepth 100000
theorem aK.many{w:World}{X:bA}{L:List Int}{R:Nat→Nat}(h:aK w X L R):X.T.length≤8:=by rw[←X.iG];exact h.fit.many
theorem Qb(f m:Nat)(x:Int):(vF (f,m) x=false∧(x<f∨((f:Int)≤x∧(m:Int)≤x-f)))∨(vF (f,m) x=true∧(f:Int)≤x∧x-f<m):=by
 cases h:vF (f,m) x with
 |true=>
  have:=(mO _ _).1 h
  exact Or.inr ⟨rfl,this.1,by have:=this.2;simp only at this;omega⟩
 |false=>
  refine Or.inl ⟨rfl,?_⟩
  have:¬((f:Int)≤x∧x<(f:Int)+(m:Int)):=fun e=>by rw[(mO (f,m) x).2 e]at h;cases h
  omega
def aaP(w:World)(P:List (Nat×Nat))(n:Nat)(x:Int)(i:Value)(wr:World):Prop:=∃k:Nat,i= .int .i64 (k:Int)∧k≤n∧Below w.heap.size w wr∧∀j,j<k→vF (P.getD j (0,0)) x=false
set_option maxHeartbeats 2000000 in
theorem Er(X:bA)(L:List Int)(R:Nat→Nat)(x:Int)(w:World)(h:aK w X L R)(hx: -9223372036854775808≤x∧x≤9223372036854775807):Calls Tryz.prog 67 #[.pointer (some ⟨X.pb,0,none⟩), .int .i64 x] w fun e w'=>e= .returned (.tuple #[.int .i64 (iO X.P x).1, .int .i64 (iO X.P x).2])∧Below w.heap.size w w':=by
 have c0:=h.c0
 have c1:=h.c1
 have PT:=Lib.hid h.parts
 have FT:=Lib.hid h.fit
 have Ny:=h.many
 have PG:Hid (∀i,i<X.T.length→X.P.getD i (0,0)=(X.T.getD i default).2):=Lib.hid (fun i hi=>AZ X.T i hi)
 have PL:=Lib.hid X.iG
 obtain⟨aa,cc,hv⟩:=kV h.parts
 generalize X.T=T at*
 generalize X.P=P at*
 rw[hv]at c1 PT
 obtain⟨n,hn⟩:∃n,n=T.length:=⟨_,rfl⟩
 rw[←hn]at c1 Ny
 have HN:=Lib.hid hn
 have C0:=Lib.hid c0
 clear h hv hn c0
 go_enter Tryz.func67,Tryz.ntmps67
 go_wp2_with(go_at_call 124;refine(nG _ _ _ C0.out).mono ?_;rintro e w' ⟨rfl,rfl⟩)
 go_loopw [16] (fun i wr=>aaP w P n x i wr) (fun i _=>n-(intOf i).toNat)
 case atStart=>exact⟨0,rfl,Nat.zero_le _,Below.refl _ _,fun j hj=>absurd hj (Nat.not_lt_zero _)⟩
 case round=>
  obtain⟨k,rfl,hk,hB,hno⟩:=hrel
  have B:=Lib.hid hB
  have NO:=Lib.hid hno
  clear hB hno
  by_cases hlt':k<n
  ·obtain⟨g,c,s,f,m,hg,hgw,hrow,e0,e1,e2⟩:=pJ PT.out k (by have:=HN.out;omega)
   obtain⟨rfl,rfl⟩:aa=some ⟨g,0,none⟩∧cc=c:=by cases hg;exact⟨rfl,rfl⟩
   have d0:=(B.out.cell (p:=⟨g,k*3,none⟩) hgw).trans e0
   have d1:=(B.out.cell (p:=⟨g,k*3+1,none⟩) hgw).trans e1
   have d2:=(B.out.cell (p:=⟨g,k*3+2,none⟩) hgw).trans e2
   have hfm:f+m≤1024:=by
    have h1:=(FT.out.rng k (by rw[PL.out,←HN.out];exact hlt')).2
    rw[PG.out k (by rw[←HN.out];exact hlt'),hrow]at h1
    have:=FT.out.top
    simp only at h1
    omega
   have ROW:Hid (P.getD k (0,0)=(f,m)):=Lib.hid (by rw[PG.out k (by rw[←HN.out];exact hlt'),hrow])
   clear e0 e1 e2 hrow hg
   rcases Qb f m x with⟨hi,afc⟩|⟨hi,h1,h2⟩
   ·have NO1:Hid (∀j,j<k+1→vF (P.getD j (0,0)) x=false):=Lib.hid (fun j hj=>by
     by_cases e:j=k
     ·subst e;rw[ROW.out];exact hi
     ·exact NO.out j (by omega))
    have B1:=Lib.hid (B.out.alloc B.out.size (.cells #[.pointer (some ⟨s,0,none⟩), .int .i64 (f:Int), .int .i64 (m:Int)] 148))
    rcases afc with h1|⟨h1,h2⟩
    ·have q1:decide ((f:Int)≤x)=false:=decide_eq_false (by omega)
     go_wp2
     go_roundw
     case rel=>exact⟨k+1,by go_num,by omega,B1.out,NO1.out⟩
     case measure=>simp[intOf];omega
    ·have q1:decide ((f:Int)≤x)=true:=decide_eq_true h1
     have q2:decide (x-(f:Int)<(m:Int))=false:=decide_eq_false (by omega)
     go_wp2
     go_roundw
     case rel=>exact⟨k+1,by go_num,by omega,B1.out,NO1.out⟩
     case measure=>simp[intOf];omega
   ·have q1:decide ((f:Int)≤x)=true:=decide_eq_true h1
    have q2:decide (x-(f:Int)<(m:Int))=true:=decide_eq_true h2
    have E:Hid (iO P x=((k:Int),0)):=Lib.hid (Gw P x k (by rw[PL.out,←HN.out];exact hlt') (by rw[ROW.out];exact hi) NO.out)
    have B1:=Lib.hid (B.out.alloc B.out.size (.cells #[.pointer (some ⟨s,0,none⟩), .int .i64 (f:Int), .int .i64 (m:Int)] 148))
    go_wp2
    go_ret2
    exact⟨by rw[E.out];rfl,B1.out⟩
  ·obtain rfl:k=n:=by omega
   have E:Hid (iO P x=(0,2)):=Lib.hid (PW P x (by rw[PL.out,←HN.out];exact NO.out))
   go_wp2
   go_ret2
   exact⟨by rw[E.out];rfl,B.out⟩
theorem Qc:(Tryz.prog.info? 148).map (fun i=>(i.zero,i.size))=some (some (.agg #[.pointer none, .int .i64 0, .int .i64 0]),3):=by kernel_rfl
theorem Es(w:World):(zeroValue 148).run Tryz.prog w= .ok (.agg #[.pointer none, .int .i64 0, .int .i64 0]) w:=(zero_of_info Qc).1 w
theorem Ui(X:bA)(L:List Int)(R:Nat→Nat)(k:Int)(w:World)(h:aK w X L R)(hk:iF X.P k=false):Calls Tryz.prog 83 #[.pointer (some ⟨X.pb,0,none⟩), .int .i64 k] w fun e w'=>e= .returned (.tuple #[.agg #[.pointer none, .int .i64 0, .int .i64 0], .int .i64 2])∧Below w.heap.size w w':=by
 have hz:=Es
 obtain⟨aa,cc,hv⟩:=kV h.parts
 have hB:=(Below.refl w.heap.size w).alloc (Nat.le_refl _) (.cells #[.pointer none, .int .i64 0, .int .i64 0] 148)
 have h1:=h.below hB
 have c0:=Lib.hid h1.c0
 have c1:=h1.c1
 have Ny:=h.many
 have hk':k<0∨(0≤k∧(X.T.length:Int)≤k):=by
  have:¬iF X.P k=true:=by rw[hk];exact Bool.false_ne_true
  rw[mV,X.iG]at this
  omega
 rw[hv]at c1
 generalize X.T.length=n at*
 have B:=Lib.hid hB
 clear h h1 hv hk hB
 rcases hk' with hk|⟨hk,hk2⟩
 ·have q1:decide (k<0)=true:=decide_eq_true hk
  go_enter Tryz.func83,Tryz.ntmps83
  go_wp2_with(go_at_call 124;refine(nG _ _ _ c0.out).mono ?_;rintro e w' ⟨rfl,rfl⟩)
  refine bodyPost_ret (v:= .tuple #[.agg #[.pointer none, .int .i64 0, .int .i64 0], .int .i64 2]) (by simp[results,Tryz.results83,go_sem]) rfl ?_
  exact⟨rfl,B.out⟩
 ·have q1:decide (k<0)=false:=decide_eq_false (by omega)
  have q2:decide ((n:Int)≤k)=true:=decide_eq_true hk2
  go_enter Tryz.func83,Tryz.ntmps83
  go_wp2_with(go_at_call 124;refine(nG _ _ _ c0.out).mono ?_;rintro e w' ⟨rfl,rfl⟩)
  refine bodyPost_ret (v:= .tuple #[.agg #[.pointer none, .int .i64 0, .int .i64 0], .int .i64 2]) (by simp[results,Tryz.results83,go_sem]) rfl ?_
  exact⟨rfl,B.out⟩
theorem Uj(X:bA)(L:List Int)(R:Nat→Nat)(k s f m:Nat)(w:World)(h:aK w X L R)(hk:k<X.T.length)(hrow:X.T.getD k default=(s,(f,m))):Calls Tryz.prog 83 #[.pointer (some ⟨X.pb,0,none⟩), .int .i64 (k:Int)] w fun e w'=>e= .returned (.tuple #[.agg #[.pointer (some ⟨s,0,none⟩), .int .i64 (f:Int), .int .i64 (m:Int)], .int .i64 0])∧Below w.heap.size w w':=by
 have hz:=Es
 have hB:=(Below.refl w.heap.size w).alloc (Nat.le_refl _) (.cells #[.pointer none, .int .i64 0, .int .i64 0] 148)
 have h1:=h.below hB
 have c0:=Lib.hid h1.c0
 have c1:=h1.c1
 have Ny:=h.many
 obtain⟨g,c,s',f',m',hv,hgw,hrow',e0,e1,e2⟩:=pJ h1.parts k hk
 obtain⟨rfl,rfl,rfl⟩:s'=s∧f'=f∧m'=m:=by rw[hrow]at hrow';cases hrow';exact⟨rfl,rfl,rfl⟩
 obtain⟨_,_,_,_,_,hv',hg',_⟩:=pJ h.parts k hk
 have hgb:g≠w.heap.size:=by
  rw[hv]at hv';cases hv'
  omega
 rw[hv]at c1
 generalize X.T.length=n at*
 have q1:decide ((k:Int)<0)=false:=decide_eq_false (by omega)
 have q2:decide ((n:Int)≤(k:Int))=false:=decide_eq_false (by omega)
 clear h h1 hv hrow hrow' hB hv' hg' hgw
 go_enter Tryz.func83,Tryz.ntmps83
 go_wp2_with(go_at_call 124;refine(nG _ _ _ c0.out).mono ?_;rintro e w' ⟨rfl,rfl⟩)
 refine bodyPost_ret (v:= .tuple #[.agg #[.pointer (some ⟨s',0,none⟩), .int .i64 (f':Int), .int .i64 (m':Int)], .int .i64 0]) (by simp[results,Tryz.results83,go_sem]) rfl ?_
 exact⟨rfl,(Below.refl _ _).alloc (Nat.le_refl _) _⟩
end Go.Proofs.YtammlljefhakmaaGreatDoor
namespace Go.Proofs.YtammlljefhakmaaGreatDoor
open Go.RowKit
set_option maxRecDepth 100000
theorem sj{X:bA}{x a e:Int}(ho:iO X.P x=(a,e)){L:List Int}{R:Nat→Nat}{w:World}(h:aK w X L R)(hx:I64 x):Calls Tryz.prog 67 #[.pointer (some ⟨X.pb,0,none⟩), .int .i64 x] w fun e' w'=>e'= .returned (.tuple #[.int .i64 a, .int .i64 e])∧Below w.heap.size w w':=by
 have:=Er X L R x w h hx
 rwa [ho]at this
theorem Uk(X:bA)(L:List Int)(R:Nat→Nat)(x:Int)(w:World)(h:aK w X L R)(hx:I64 x):Calls Tryz.prog 203 #[.pointer (some ⟨X.pb,0,none⟩), .int .i64 x] w fun e w'=>e= .returned (.tuple #[.int .i64 (if eH X.P R x=0 then(iO X.P x).1 else 0), .int .i64 (eH X.P R x)])∧Below w.heap.size w w':=by
 have H:=Lib.hid h
 rcases uS h.fit x with⟨ho,he,_⟩|⟨y,i,rfl,hy,hi,ho,_,hr,Mj,he⟩|⟨y,i,rfl,hy,hi,ho,_,hr,hr2,Mj,he⟩
 ·rw[he,ho]
  have HO:=Lib.hid ho
  clear h ho he
  go_enter Tryz.func203,Tryz.ntmps203
  go_wp2_with(go_at_call 67;refine(sj HO.out H.out hx).mono ?_;rintro e w' ⟨rfl,hb⟩;have B:=Lib.hid hb;clear hb)
  go_ret2
  exact⟨rfl,B.out⟩
 ·rw[he,ho]
  have HO:=Lib.hid ho
  have HR:=Lib.hid Mj
  clear h ho he Mj hr
  go_enter Tryz.func203,Tryz.ntmps203
  go_wp2_with(first
   |(go_at_call 67;refine(sj HO.out H.out hx).mono ?_;rintro e w' ⟨rfl,hb⟩;have B:=Lib.hid hb;have H1:=Lib.hid (H.out.below hb);have c2:=(H.out.below hb).c2;clear hb)
   |(at_lookup;refine dB _ rfl _ _ rfl X.mb R rfl H1.out.refs _ 0 rfl hx HR.out ?_))
  go_ret2
  exact⟨rfl,B.out⟩
 ·rw[he,ho]
  have HO:=Lib.hid ho
  have HR:=Lib.hid Mj
  clear h ho he Mj
  generalize R y=q at*
  go_enter Tryz.func203,Tryz.ntmps203
  go_wp2_with(first
   |(go_at_call 67;refine(sj HO.out H.out hx).mono ?_;rintro e w' ⟨rfl,hb⟩;have B:=Lib.hid hb;have H1:=Lib.hid (H.out.below hb);have c2:=(H.out.below hb).c2;clear hb)
   |(at_lookup;refine dB _ rfl _ _ rfl X.mb R rfl H1.out.refs _ (q:Int) rfl hx HR.out ?_))
  go_ret2
  exact⟨rfl,B.out⟩
theorem tN{X:bA}{R:Nat→Nat}{x a e:Int}(he:eH X.P R x=e)(ha:(if e=0 then(iO X.P x).1 else 0)=a){L:List Int}{w:World}(h:aK w X L R)(hx:I64 x):Calls Tryz.prog 203 #[.pointer (some ⟨X.pb,0,none⟩), .int .i64 x] w fun e' w'=>e'= .returned (.tuple #[.int .i64 a, .int .i64 e])∧Below w.heap.size w w':=by
 have:=Uk X L R x w h hx
 rwa [he,ha]at this
theorem XI{X:bA}{R:Nat→Nat}{x c:Int}(hc:ru R x=c){L:List Int}{w:World}(h:aK w X L R)(hx:I64 x):Calls Tryz.prog 189 #[.pointer (some ⟨X.pb,0,none⟩), .int .i64 x] w fun e w'=>e= .returned (.int .i64 c)∧w=w':=by
 have H:=Lib.hid h
 have HR:=Lib.hid hc
 have c2:=h.c2
 clear h hc
 go_enter Tryz.func189,Tryz.ntmps189
 go_wp2_with(first
  |(go_at_call 124;refine(nG _ _ _ H.out.c0).mono ?_;rintro e w' ⟨rfl,rfl⟩)
  |(at_lookup;refine dB _ rfl _ _ rfl X.mb R rfl H.out.refs _ c rfl hx HR.out ?_))
 go_ret
 exact⟨rfl,rfl⟩
theorem Ul(X:bA)(L:List Int)(R:Nat→Nat)(k:Int)(w:World)(h:aK w X L R):Calls Tryz.prog 35 #[.pointer (some ⟨X.pb,0,none⟩), .int .i64 k] w fun e w'=>e= .returned (.int .i64 (yU X.P R k:Int))∧Below w.heap.size w w':=by
 have H:=Lib.hid h
 cases hk:iF X.P k with
 |false=>
  have E:Hid (yU X.P R k=0):=Lib.hid (by simp[yU,hk])
  have HK:=Lib.hid hk
  clear h hk
  go_enter Tryz.func35,Tryz.ntmps35
  go_wp2_with(go_at_call 83;refine(Ui X L R k _ H.out HK.out).mono ?_;rintro e w' ⟨rfl,hb⟩;have B:=Lib.hid (hb.alloc hb.size (.cells #[.pointer none, .int .i64 0, .int .i64 0] 148));clear hb)
  go_ret
  exact⟨by rw[E.out];rfl,B.out⟩
 | true=>
  have h1:=(mV _ _).1 hk
  rw[X.iG]at h1
  obtain⟨k,rfl⟩:=Int.eq_ofNat_of_zero_le h1.1
  have hkT:k<X.T.length:=by omega
  obtain⟨t,ht⟩:∃t,X.T.getD k default=t:=⟨_,rfl⟩
  obtain⟨s,f,m⟩:=t
  have hs:=h.sets k hkT
  rw[ht]at hs
  obtain⟨q,hq⟩:∃q,(bK (f,m) R).length=q:=⟨_,rfl⟩
  have E:Hid (yU X.P R (k:Int)=q):=Lib.hid (by
   rw[yU,hk,if_pos rfl,Int.toNat_natCast,bA.P,AZ X.T k hkT,ht];exact hq)
  have HK:=Lib.hid hkT
  have HT:=Lib.hid ht
  have HS:=Lib.hid hs
  have HQ:=Lib.hid hq
  clear h hk h1 hkT ht hs hq
  go_enter Tryz.func35,Tryz.ntmps35
  go_wp2_with(first
   |(go_at_call 83;refine(Uj X L R k s f m _ H.out HK.out HT.out).mono ?_;rintro e w' ⟨rfl,hb⟩;have B:=Lib.hid (hb.alloc hb.size (.cells #[.pointer (some ⟨s,0,none⟩), .int .i64 (f:Int), .int .i64 (m:Int)] 148));clear hb)
   |(go_at_call 84;refine(XB _ _ _ (HS.out.below B.out)).mono ?_;rw[HQ.out];rintro e w' ⟨rfl,rfl⟩))
  go_ret
  exact⟨by rw[E.out];rfl,B.out⟩
theorem XJ{X:bA}{R:Nat→Nat}{k:Int}{c:Nat}(hc:yU X.P R k=c){L:List Int}{w:World}(h:aK w X L R):Calls Tryz.prog 35 #[.pointer (some ⟨X.pb,0,none⟩), .int .i64 k] w fun e w'=>e= .returned (.int .i64 (c:Int))∧Below w.heap.size w w':=by
 have:=Ul X L R k w h
 rwa [hc]at this
end Go.Proofs.YtammlljefhakmaaGreatDoor
namespace Go.Proofs.YtammlljefhakmaaGreatDoor
open Go.RowKit
set_option maxRecDepth 100000
structure jg(w:World)(X:bA)(L:List Int)(R:Nat→Nat)(F:Nat→List Nat):Prop where
 mem:bS w X.mp X.fb X.n L
 box:w.heap[X.pb]? =some (.cells #[.pointer (some ⟨X.mp,0,none⟩),X.v, .map (some X.mb)] 115 (0,0))
 parts:w.ownsRow X.base 148 3 X.v X.T.length (jD X.T)
 sets:∀i,i<X.T.length→dP w (X.T.getD i default).1 (F i)
 refs:gW w X.mb R
 nodup:∀i j,i<X.T.length→j<X.T.length→(X.T.getD i default).1=(X.T.getD j default).1→i=j
theorem aK.toG{w:World}{X:bA}{L:List Int}{R:Nat→Nat}(h:aK w X L R):jg w X L R (fun i=>bK (X.T.getD i default).2 R):=⟨h.mem,h.box,h.parts,h.sets,h.refs,h.nodup⟩
theorem jg.Mk{w:World}{X:bA}{L:List Int}{R:Nat→Nat}{F:Nat→List Nat}(h:jg w X L R F)(hf:kZ X.n X.P R)(hF:∀i,i<X.T.length→F i=bK (X.T.getD i default).2 R):aK w X L R:=
 ⟨h.mem,h.box,h.parts,fun i hi=>by rw[←hF i hi];exact h.sets i hi,h.refs,hf,h.nodup⟩
theorem Um{T:List (Nat×(Nat×Nat))}{i:Nat}(h:i<T.length):(T.getD i default).1∈T.map (·.1):=
 List.mem_map.2 ⟨T.getD i default,by rw[List.getD_eq_getElem?_getD,List.getElem?_eq_getElem h];exact List.getElem_mem h,rfl⟩
theorem lT{w w':World}{base k n r:Nat}{e:TypeId}{v:Value}{xs:List Value}{o:Obj}(h:w.ownsRow base e k v n xs)(hg:w.grownBy w' (some r))(ho:w.heap[r]? =some o)(hk:kindOf o≠some e):w'.ownsRow base e k v n xs:=by
 refine h.kept hg (Or.inr fun e2=>?_)
 obtain⟨cs,hcs⟩:=bE h e2
 rw[hcs]at ho
 exact hk (by rw[←Option.some.inj ho];rfl)
theorem gN{w w':World}{k r:Nat}{o o':Obj}(h:w.heap[k]? =some o)(hg:w.grownBy w' (some r))(ho:w.heap[r]? =some o')(hk:kindOf o≠kindOf o'):w'.heap[k]? =some o:=
 (hg.block k (lt_of_block h) (fun e=>FV h ho hk (Option.some.inj e))).trans h
theorem jg.map{w w':World}{X:bA}{L:List Int}{R R':Nat→Nat}{F:Nat→List Nat}(h:jg w X L R F)(hg:w.grownBy w' (some X.mb))(hr:gW w' X.mb R'):jg w' X L R' F:=by
 obtain⟨es,ck,ho⟩:=h.refs.isMap
 exact⟨⟨gN h.mem.box hg ho (by simp[kindOf]),gN h.mem.row hg ho (by simp[kindOf]),h.mem.len,h.mem.ne,h.mem.pos,h.mem.top⟩,
  gN h.box hg ho (by simp[kindOf]),lT h.parts hg ho (by simp[kindOf]),fun i hi=>⟨(h.sets i hi).good,gN (h.sets i hi).box hg ho (by simp[kindOf])⟩,hr,h.nodup⟩
theorem jg.set{w w':World}{X:bA}{L:List Int}{R:Nat→Nat}{F:Nat→List Nat}(h:jg w X L R F)(i:Nat)(hi:i<X.T.length)(K:List Nat)(ht:Turn w w' (X.T.getD i default).1 K):jg w' X L R (fun j=>if j=i then K else F j):=by
 have ho:=(h.sets i hi).box
 have hg:=ht.grown
 refine⟨⟨gN h.mem.box hg ho (by simp[kindOf]),gN h.mem.row hg ho (by simp[kindOf]),h.mem.len,h.mem.ne,h.mem.pos,h.mem.top⟩,
  gN h.box hg ho (by simp[kindOf]),lT h.parts hg ho (by simp[kindOf]),fun j hj=>?_,?_,h.nodup⟩
 ·by_cases e:j=i
  ·subst e;rw[if_pos rfl];exact ht.st
  ·rw[if_neg e]
   exact(h.sets j hj).kept hg (fun e2=>e (h.nodup j i hj hi (Option.some.inj e2)))
 ·obtain⟨es,ck,hm⟩:=h.refs.isMap
  refine h.refs.same (hg.block _ h.refs.lt (fun e=>FV hm ho (by simp[kindOf]) (Option.some.inj e)))
theorem jg.aaR{w w':World}{X:bA}{L L':List Int}{R:Nat→Nat}{F:Nat→List Nat}(h:jg w X L R F)(hp:Puts w w' X.mp X.fb X.n L'):jg w' X L' R F:=by
 have ho:=h.mem.row
 have hg:=hp.grown
 refine⟨hp.st,gN h.box hg ho (by simp[kindOf]),lT h.parts hg ho (by simp[kindOf]),fun j hj=>⟨(h.sets j hj).good,gN (h.sets j hj).box hg ho (by simp[kindOf])⟩,?_,h.nodup⟩
 obtain⟨es,ck,hm⟩:=h.refs.isMap
 exact h.refs.same (hg.block _ h.refs.lt (fun e=>FV hm ho (by simp[kindOf]) (Option.some.inj e)))
theorem jg.c0{w:World}{X:bA}{L:List Int}{R:Nat→Nat}{F:Nat→List Nat}(h:jg w X L R F):w.cell? ⟨X.pb,0,none⟩=some (.pointer (some ⟨X.mp,0,none⟩)):=by rw[cell_of_row w _ _ _ _ _ h.box];rfl
theorem jg.c1{w:World}{X:bA}{L:List Int}{R:Nat→Nat}{F:Nat→List Nat}(h:jg w X L R F):w.cell? ⟨X.pb,1,none⟩=some X.v:=by rw[cell_of_row w _ _ _ _ _ h.box];rfl
theorem jg.c2{w:World}{X:bA}{L:List Int}{R:Nat→Nat}{F:Nat→List Nat}(h:jg w X L R F):w.cell? ⟨X.pb,2,none⟩=some (.map (some X.mb)):=by rw[cell_of_row w _ _ _ _ _ h.box];rfl
theorem Jm{n:Nat}{P:List (Nat×Nat)}{R:Nat→Nat}(h:kZ n P R)(x:Int):eH P R x=0∨eH P R x=2∨eH P R x=4:=by
 rcases uS h x with⟨_,he,_⟩|⟨_,_,_,_,_,_,_,_,_,he⟩|⟨_,_,_,_,_,_,_,_,_,_,he⟩
 ·exact Or.inr (Or.inl he)
 ·exact Or.inr (Or.inr he)
 ·exact Or.inl he
theorem Bb{n:Nat}{P:List (Nat×Nat)}{R:Nat→Nat}(h:kZ n P R)(x:Int)(h0:eH P R x=0):∃y i:Nat,x=y∧y<n∧i<P.length∧iO P x=((i:Int),0)∧vF (P.getD i (0,0)) (y:Int)=true∧R y≠0∧R y≤64∧ru R x=(R y:Int):=by
 rcases uS h x with⟨_,he,_⟩|⟨_,_,_,_,_,_,_,_,_,he⟩|⟨y,i,h1,h2,h3,h4,h5,h6,h7,h8,_⟩
 ·rw[he]at h0;cases h0
 ·rw[he]at h0;cases h0
 ·exact⟨y,i,h1,h2,h3,h4,h5,h6,h7,h8⟩
set_option maxHeartbeats 1000000 in
theorem Qd(X:bA)(L:List Int)(R:Nat→Nat)(x:Int)(w:World)(h:aK w X L R)(hx:I64 x):Calls Tryz.prog 162 #[.pointer (some ⟨X.pb,0,none⟩), .int .i64 x] w fun e w'=>e= .returned (.int .i64 (jC X.P R x))∧Moves w w' X L (nE X.P R x):=by
 have H:=Lib.hid h
 rcases Jm h.fit x with he|he
 ·obtain⟨y,i,rfl,hy,hi,ho,hin,hr,hr2,Mj⟩:=Bb h.fit x he
  have HE:=Lib.hid he
  have HA:=Lib.hid (show(if(0:Int)=0 then(iO X.P (y:Int)).1 else 0)=(i:Int) by rw[ho];rfl)
  have hy2:y<1024:=by have:=h.fit.top;omega
  have HR:=Lib.hid Mj
  by_cases h64:R y=64
  ·have E:Hid (jC X.P R (y:Int)=3∧nE X.P R (y:Int)=R):=Lib.hid (by
    have:jC X.P R (y:Int)=3:=by simp[jC,he,Mj,h64]
    exact⟨this,by simp[nE,this]⟩)
   rw[h64]at HR
   clear h he hr hr2 Mj ho hin hi h64
   go_enter Tryz.func162,Tryz.ntmps162
   go_wp2_with(first
    |(go_at_call 203;refine(tN HE.out HA.out H.out hx).mono ?_;rintro e w' ⟨rfl,hb⟩;have B:=Lib.hid hb;have H1:=Lib.hid (H.out.below hb);have c2:=(H.out.below hb).c2;clear hb)
    |(at_lookup;refine dB _ rfl _ _ rfl X.mb R rfl H1.out.refs _ 64 rfl hx HR.out ?_))
   go_ret
   exact⟨by rw[E.out.1];rfl,by rw[E.out.2];exact Moves.stay H.out B.out⟩
  ·have E:Hid (jC X.P R (y:Int)=0∧nE X.P R (y:Int)=upd R y (R y+1)):=Lib.hid (by
    have:jC X.P R (y:Int)=0:=by simp[jC,he,Mj];omega
    exact⟨this,by simp[nE,this]⟩)
   have FF:Hid (kZ X.n X.P (upd R y (R y+1))∧∀i,i<X.T.length→bK (X.T.getD i default).2 R=bK (X.T.getD i default).2 (upd R y (R y+1))):=Lib.hid
    ⟨h.fit.upd i y _ hi hin (by omega),fun j _=>(qz _ _ _ _ hr (by omega)).symm⟩
   rw[E.out.1,E.out.2]
   clear E
   generalize R y=q at*
   have hne:((q:Int)==64)=false:=by simp;omega
   clear h he hr Mj ho hin hi
   go_enter Tryz.func162,Tryz.ntmps162
   go_wp2_with(first
    |(go_at_call 203;refine(tN HE.out HA.out H.out hx).mono ?_;rintro e w1 ⟨rfl,hb⟩;have B:=Lib.hid hb;have H1:=Lib.hid (H.out.below hb);have c2:=(H.out.below hb).c2;clear hb)
    |(at_lookup;refine dB _ rfl _ _ rfl X.mb R rfl H1.out.refs _ (q:Int) rfl hx HR.out ?_)
    |(at_mapUpdate;refine mo _ rfl _ _ _ rfl X.mb R rfl H1.out.refs y (q+1) rfl hy2 (by first|rfl|simp) (by omega) ?_;intro w2 hr2 hg;have G:=Lib.hid (jg.map H1.out.toG hg hr2);have O:=Lib.hid ((Only.below B.out).trans (Only.grown (B:=X.blocks) hg (Or.inr (Or.inl rfl))));clear hr2 hg))
   go_ret
   exact⟨rfl,G.out.Mk FF.out.1 FF.out.2,O.out⟩
 ·have E:Hid (jC X.P R x=eH X.P R x∧nE X.P R x=R):=Lib.hid (by
   have:=Jh h.fit (x:=x) (by rcases he with e|e<;>rw[e]<;>decide)
   exact⟨this.1,this.2.1⟩)
  rw[E.out.1,E.out.2]
  have HA:Hid ((if eH X.P R x=0 then(iO X.P x).1 else 0)=0):=Lib.hid (by rcases he with e|e<;>rw[e]<;>rfl)
  obtain⟨q,hq⟩:∃q,eH X.P R x=q:=⟨_,rfl⟩
  rw[hq]at he HA ⊢
  have HE:=Lib.hid hq
  clear h E hq
  rcases he with rfl|rfl
  all_goals
   go_enter Tryz.func162,Tryz.ntmps162
   go_wp2_with(go_at_call 203;refine(tN HE.out HA.out H.out hx).mono ?_;rintro e w' ⟨rfl,hb⟩;have B:=Lib.hid hb;clear hb)
   go_ret
   exact⟨rfl,Moves.stay H.out B.out⟩
theorem Un{n:Nat}{P:List (Nat×Nat)}{R:Nat→Nat}{x:Int}(h:kZ n P R)(he:eH P R x=2∨eH P R x=4):l6 P R x=R:=(Jh h (by rcases he with e|e<;>rw[e]<;>decide)).2.2
set_option maxHeartbeats 1000000 in
theorem Uo(X:bA)(L:List Int)(R:Nat→Nat)(x:Int)(w:World)(h:aK w X L R)(hx:I64 x):Calls Tryz.prog 143 #[.pointer (some ⟨X.pb,0,none⟩), .int .i64 x] w fun e w'=>e= .returned (.int .i64 (eH X.P R x))∧Moves w w' X L (l6 X.P R x):=by
  have H:=Lib.hid h
  rcases Jm h.fit x with he|he
  · obtain ⟨y,i,rfl,hy,hi,ho,hin,hr,hr2,Mj⟩:=Bb h.fit x he
    have HE:=Lib.hid he
    have HA:=Lib.hid (show(if(0:Int)=0 then(iO X.P (y:Int)).1 else 0)=(i:Int) by rw[ho];rfl)
    have hy2:y<1024:=by have:=h.fit.top;omega
    have HR:=Lib.hid Mj
    have E:l6 X.P R (y:Int)=upd R y (R y-1):=by simp[l6,he]
    rw[he,E]
    by_cases h1:R y=1
    · have RX:i<X.T.length:=by rw[←X.iG];exact hi
      have hrow:=AZ X.T i RX
      rw[show(X.T.map (·.2))=X.P from rfl]at hrow
      obtain⟨t,ht⟩:∃t,X.T.getD i default=t:=⟨_,rfl⟩
      obtain⟨s,f,m⟩:=t
      have acY:f≤y∧y<f+m:=by
        rw[hrow,ht]at hin
        have:=(mO _ _).1 hin
        simp only at this
        omega
      obtain⟨hn,Zv⟩:=AY (f,m) R y acY (by omega)
      have FF:Hid (kZ X.n X.P (upd R y 0)∧∀j,j<X.T.length→(if j=i then ins (bK (f,m) R) y else bK (X.T.getD j default).2 R)=bK (X.T.getD j default).2 (upd R y 0)):=Lib.hid
        ⟨h.fit.upd i y _ hi hin (by omega),fun j hj=>by
          by_cases e:j=i
          · subst e;rw[if_pos rfl,ht];exact Zv.symm
          · rw[if_neg e,←AZ X.T j hj];exact(h.fit.Jg i y 0 hi hin j (by rw[X.iG];exact hj) e).symm⟩
      have PE:Hid (AQ (bK (f,m) R) (y:Int)=0∧AU (bK (f,m) R) (y:Int)=ins (bK (f,m) R) y):=Lib.hid (by
        have h5:vV (y:Int)=true:=(pF _).2 (by omega)
        exact⟨by simp[AQ,h5,hn],by simp[AU,h5,hn]⟩)
      have NB:Hid (i<X.T.length):=Lib.hid RX
      have TT:=Lib.hid ht
      have Ny:=h.many
      rw[h1]
      rw[h1]at HR
      have hi8:i<X.T.length:=RX
      clear h he E hr hr2 Mj ho hin hi h1 hrow acY hn Zv RX ht
      go_enter Tryz.func143,Tryz.ntmps143
      go_wp2_with(first
        |(go_at_call 203;refine(tN HE.out HA.out H.out hx).mono ?_;rintro e w1 ⟨rfl,hb⟩;have B:=Lib.hid hb;have H1:=Lib.hid (H.out.below hb);have c2:=(H.out.below hb).c2;clear hb)
        |(at_lookup;refine dB _ rfl _ _ rfl X.mb R rfl H1.out.refs _ 1 rfl hx HR.out ?_)
        | (at_delete;refine xI _ rfl _ _ rfl X.mb R rfl H1.out.refs y rfl hy2 ?_;intro w2 hr2 hg;have G:=Lib.hid (jg.map H1.out.toG hg hr2);have O:=Lib.hid ((Only.below B.out).trans (Only.grown (B:=X.blocks) hg (Or.inr (Or.inl rfl))));clear hr2 hg c2
           obtain⟨g,c,s',f',m',hv,_,hrow',e0,_,_⟩:=pJ G.out.parts i NB.out
           obtain⟨rfl,rfl,rfl⟩:s'=s∧f'=f∧m'=m:=by rw[TT.out]at hrow';cases hrow';exact⟨rfl,rfl,rfl⟩
           have c1:=G.out.c1
           have S2:=G.out.sets i NB.out
           simp only[TT.out]at S2
           have S2:=Lib.hid S2
           rw[hv]at c1
           clear hv hrow')
        |(go_at_call 177;refine(Nr _ _ _ _ S2.out).mono ?_;rw[PE.out.1,PE.out.2];rintro e w3 ⟨rfl,ht⟩;have T3:=Lib.hid (TT.out▸ht:Turn w2 w3 (X.T.getD i default).1 (ins (bK (f',m') R) y));clear ht))
      go_ret
      exact⟨rfl,(G.out.set i NB.out _ T3.out).Mk FF.out.1 FF.out.2,O.out.trans (Only.grown T3.out.grown (Or.inr (Or.inr (Um NB.out))))⟩
    · have FF:Hid (kZ X.n X.P (upd R y (R y-1))∧∀i,i<X.T.length→bK (X.T.getD i default).2 R=bK (X.T.getD i default).2 (upd R y (R y-1))):=Lib.hid
        ⟨h.fit.upd i y _ hi hin (by omega),fun j _=>(qz _ _ _ _ hr (by omega)).symm⟩
      obtain⟨q,hq⟩:∃q,R y=q+2:=⟨R y-2,by omega⟩
      rw[hq]at HR FF ⊢
      rw[show q+2-1=q+1 by omega]at FF ⊢
      have hq2:q≤62:=by omega
      rw[show((q+2:Nat):Int)=(q:Int)+2 by omega]at HR
      have hgt:decide ((1:Int)<(q:Int)+2)=true:=decide_eq_true (by omega)
      clear h he E hr hr2 Mj ho hin hi h1 hq
      go_enter Tryz.func143,Tryz.ntmps143
      go_wp2_with(first
        |(go_at_call 203;refine(tN HE.out HA.out H.out hx).mono ?_;rintro e w1 ⟨rfl,hb⟩;have B:=Lib.hid hb;have H1:=Lib.hid (H.out.below hb);have c2:=(H.out.below hb).c2;clear hb)
        |(at_lookup;refine dB _ rfl _ _ rfl X.mb R rfl H1.out.refs _ ((q:Int)+2) rfl hx HR.out ?_)
        |(at_mapUpdate;refine mo _ rfl _ _ _ rfl X.mb R rfl H1.out.refs y (q+1) rfl hy2 (by simp[go_sem];omega) (by omega) ?_;intro w2 hr2 hg;have G:=Lib.hid (jg.map H1.out.toG hg hr2);have O:=Lib.hid ((Only.below B.out).trans (Only.grown (B:=X.blocks) hg (Or.inr (Or.inl rfl))));clear hr2 hg))
      go_ret
      exact⟨rfl,G.out.Mk FF.out.1 FF.out.2,O.out⟩
  · have E:Hid (l6 X.P R x=R):=Lib.hid (Un h.fit he)
    rw[E.out]
    have HA:Hid ((if eH X.P R x=0 then(iO X.P x).1 else 0)=0):=Lib.hid (by rcases he with e|e<;>rw[e]<;>rfl)
    obtain⟨q,hq⟩:∃q,eH X.P R x=q:=⟨_,rfl⟩
    rw[hq]at he HA ⊢
    have HE:=Lib.hid hq
    clear h E hq
    rcases he with rfl|rfl
    all_goals
      go_enter Tryz.func143,Tryz.ntmps143
      go_wp2_with(go_at_call 203;refine(tN HE.out HA.out H.out hx).mono ?_;rintro e w' ⟨rfl,hb⟩;have B:=Lib.hid hb;clear hb)
      go_ret
      exact⟨rfl,Moves.stay H.out B.out⟩
end Go.Proofs.YtammlljefhakmaaGreatDoor
namespace Go.Proofs.YtammlljefhakmaaGreatDoor
open Go.RowKit
set_option maxRecDepth 100000
set_option maxHeartbeats 1000000 in
theorem Qe(X:bA)(L:List Int)(R:Nat→Nat)(k:Int)(w:World)(h:aK w X L R)(hT:jf w):Calls Tryz.prog 185 #[.pointer (some ⟨X.pb,0,none⟩), .int .i64 k] w fun e w'=>e= .returned (.tuple #[.int .i64 (dA X.P R k).1, .int .i64 (dA X.P R k).2])∧Moves w w' X (fJ X.P R k L) (fQ X.P R k):=by
  have H:=Lib.hid h
  have HT:=Lib.hid hT
  cases hk:iF X.P k with
  | false=>
    rw[show dA X.P R k=(0,2) by simp[dA,hk],show fJ X.P R k L=L by simp[fJ,hk],show fQ X.P R k=R by simp[fQ,hk]]
    have HK:=Lib.hid hk
    clear h hT hk
    go_enter Tryz.func185,Tryz.ntmps185
    go_wp2_with(go_at_call 83;refine(Ui X L R k _ H.out HK.out).mono ?_;rintro e w' ⟨rfl,hb⟩;have B:=Lib.hid (hb.alloc hb.size (.cells #[.pointer none, .int .i64 0, .int .i64 0] 148));clear hb)
    go_ret2
    exact⟨rfl,Moves.stay H.out B.out⟩
  | true=>
    have h1:=(mV _ _).1 hk
    rw[X.iG]at h1
    obtain⟨i,rfl⟩:=Int.eq_ofNat_of_zero_le h1.1
    have RX:i<X.T.length:=by omega
    obtain⟨t,ht⟩:∃t,X.T.getD i default=t:=⟨_,rfl⟩
    obtain⟨s,f,m⟩:=t
    have hs:=h.sets i RX
    rw[ht]at hs
    have hP:X.P.getD i (0,0)=(f,m):=by rw[bA.P,AZ X.T i RX,ht]
    have NB:=Lib.hid RX
    have TT:=Lib.hid ht
    have S:=Lib.hid hs
    cases hF:bK (f,m) R with
    | nil=>
      rw[show dA X.P R i=(0,3) by simp only[dA,hk,if_true,Int.toNat_natCast,hP,hF],show fJ X.P R i L=L by simp only[fJ,hk,if_true,Int.toNat_natCast,hP,hF],show fQ X.P R i=R by simp only[fQ,hk,if_true,Int.toNat_natCast,hP,hF]]
      have FF:Hid (∀j,j<X.T.length→(if j=i then[]else bK (X.T.getD j default).2 R)=bK (X.T.getD j default).2 R):=Lib.hid (fun j _=>by
        by_cases e:j=i
        · subst e;rw[if_pos rfl,ht,hF]
        · rw[if_neg e])
      rw[hF]at S
      clear h hT hk h1 RX ht hs hP hF
      go_enter Tryz.func185,Tryz.ntmps185
      go_wp2_with(first
        |(go_at_call 83;refine(Uj X L R i s f m _ H.out NB.out TT.out).mono ?_;rintro e w1 ⟨rfl,hb⟩;have B:=Lib.hid (hb.alloc hb.size (.cells #[.pointer (some ⟨s,0,none⟩), .int .i64 (f:Int), .int .i64 (m:Int)] 148));clear hb)
        |(go_at_call 221;refine(Nw s [] _ (S.out.below B.out) (HT.out.below B.out)).mono ?_;rw[show takeA []=(0,4,[])from rfl];rintro e w2 ⟨rfl,ht⟩;have T2:=Lib.hid ht;clear ht))
      go_ret2
      refine⟨rfl,((H.out.below B.out).toG.set i NB.out [] (by rw[TT.out];exact T2.out)).Mk H.out.fit FF.out,(Only.below B.out).trans (Only.grown T2.out.grown (Or.inr (Or.inr ?_)))⟩
      have:=Um NB.out
      rwa [TT.out]at this
    | cons x r=>
      rw[show dA X.P R i=((x:Int),0) by simp only[dA,hk,if_true,Int.toNat_natCast,hP,hF],show fJ X.P R i L=putRow L x zeros by simp only[fJ,hk,if_true,Int.toNat_natCast,hP,hF],show fQ X.P R i=upd R x 1 by simp only[fQ,hk,if_true,Int.toNat_natCast,hP,hF]]
      have hx:=(fB (f,m) R x).1 (by rw[hF];simp)
      have hi:i<X.P.length:=by rw[X.iG];exact RX
      have hin:vF (X.P.getD i (0,0)) (x:Int)=true:=by rw[hP,mO];simp only;omega
      have FF:Hid (kZ X.n X.P (upd R x 1)∧∀j,j<X.T.length→(if j=i then r else bK (X.T.getD j default).2 R)=bK (X.T.getD j default).2 (upd R x 1)):=Lib.hid
        ⟨h.fit.upd i x 1 hi hin (by omega),fun j hj=>by
          by_cases e:j=i
          · subst e;rw[if_pos rfl,ht];exact(AX _ _ _ _ _ hF (by omega)).symm
          · rw[if_neg e,←AZ X.T j hj];exact(h.fit.Jg i x 1 hi hin j (by rw[X.iG];exact hj) e).symm⟩
      have XN:Hid (x<X.n):=Lib.hid (by
        have:=(h.fit.rng i hi).2
        rw[hP]at this
        simp only at this hx
        omega)
      have hx2:x<1024:=by have:=XN.out;have:=h.fit.top;omega
      have MT:=Lib.hid (Um RX)
      rw[ht]at MT
      rw[hF]at S
      clear h hT hk h1 RX ht hs hP hF hx hi hin
      go_enter Tryz.func185,Tryz.ntmps185
      go_wp2_with(first
        |(go_at_call 83;refine(Uj X L R i s f m _ H.out NB.out TT.out).mono ?_;rintro e w1 ⟨rfl,hb⟩;have B:=Lib.hid (hb.alloc hb.size (.cells #[.pointer (some ⟨s,0,none⟩), .int .i64 (f:Int), .int .i64 (m:Int)] 148));clear hb)
        | (go_at_call 221;refine(Nw s (x::r) _ (S.out.below B.out) (HT.out.below B.out)).mono ?_;rw[show takeA (x::r)=((x:Int),0,r)from rfl];rintro e w2 ⟨rfl,ht⟩
           have O2:=Lib.hid ((Only.below B.out).trans (Only.grown (B:=X.blocks) ht.grown (Or.inr (Or.inr MT.out))))
           have G2:=Lib.hid ((H.out.below B.out).toG.set i NB.out r (by rw[TT.out];exact ht))
           have c2:=G2.out.c2
           clear ht)
        | (at_mapUpdate;refine mo _ rfl _ _ _ rfl X.mb R rfl G2.out.refs x 1 rfl hx2 rfl (by omega) ?_;intro w3 hr3 hg
           have O3:=Lib.hid (O2.out.trans (Only.grown hg (Or.inr (Or.inl rfl))))
           have G3:=Lib.hid (G2.out.map hg hr3)
           have c0:=G3.out.c0
           clear hr3 hg c2)
        | (go_at_call 222;refine(WS X.mp X.fb X.n x L _ G3.out.mem XN.out).mono ?_;rintro e w4 ⟨rfl,hp⟩
           have O4:=Lib.hid (O3.out.trans (Only.grown hp.grown (Or.inl rfl)))
           have G4:=Lib.hid (G3.out.aaR hp)
           clear hp))
      go_ret2
      exact⟨rfl,G4.out.Mk FF.out.1 FF.out.2,O4.out⟩
theorem Bc{X:bA}{R R':Nat→Nat}{L L':List Int}{k a e:Int}(ha:dA X.P R k=(a,e))(hl:fJ X.P R k L=L')(hr:fQ X.P R k=R'){w:World}(h:aK w X L R)(hT:jf w):Calls Tryz.prog 185 #[.pointer (some ⟨X.pb,0,none⟩), .int .i64 k] w fun e' w'=>e'= .returned (.tuple #[.int .i64 a, .int .i64 e])∧Moves w w' X L' R':=by
 have:=Qe X L R k w h hT
 rwa [ha,hl,hr]at this
theorem Uq{X:bA}{R R':Nat→Nat}{L:List Int}{x e:Int}(he:jC X.P R x=e)(hr:nE X.P R x=R'){w:World}(h:aK w X L R)(hx:I64 x):Calls Tryz.prog 162 #[.pointer (some ⟨X.pb,0,none⟩), .int .i64 x] w fun e' w'=>e'= .returned (.int .i64 e)∧Moves w w' X L R':=by
 subst he hr;exact Qd X L R x w h hx
theorem Nz{X:bA}{R R':Nat→Nat}{L:List Int}{x e:Int}(he:eH X.P R x=e)(hr:l6 X.P R x=R'){w:World}(h:aK w X L R)(hx:I64 x):Calls Tryz.prog 143 #[.pointer (some ⟨X.pb,0,none⟩), .int .i64 x] w fun e' w'=>e'= .returned (.int .i64 e)∧Moves w w' X L R':=by
 subst he hr;exact Uo X L R x w h hx
end Go.Proofs.YtammlljefhakmaaGreatDoor
