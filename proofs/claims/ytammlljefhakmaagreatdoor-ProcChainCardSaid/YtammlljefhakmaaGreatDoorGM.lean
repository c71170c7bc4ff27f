/- Helps of the proof. No condition. -/
import Derived.Test.YtammlljefhakmaaGreatDoorGG
import Derived.Test.YtammlljefhakmaaGreatDoorGL
import Derived.Test.YtammlljefhakmaaGreatDoorGR
namespace Go.Proofs.YtammlljefhakmaaGreatDoor
end Go.Proofs.YtammlljefhakmaaGreatDoor
namespace Go.Proofs.YtammlljefhakmaaGreatDoor
open Go.RowKit Go.Maps
set_option maxRecDepth 100000
def lD(n:Nat)(L:List Int)(f q:Int):fQ:=(dV n L f q).getD z0
theorem fD{n:Nat}{L:List Int}{f q:Int}{e:fQ}(h:dV n L f q=some e):lD n L f q=e:=by simp[lD,h]
theorem Fy{n:Nat}{L:List Int}{f q:Int}(h:dV n L f q=none):lD n L f q=z0:=by simp[lD,h]
theorem WE(n:Nat)(L:List Int)(f q:Int)(hn:0<n):0≤(lD n L f q).2.2.2∧(lD n L f q).2.2.2<n:=by
 cases h:dV n L f q with
 |none=>rw[Fy h];exact⟨by decide,by simp[z0];omega⟩
 |some e=>rw[fD h];obtain⟨_,h2,h3⟩:=BH h;exact⟨(Nu h2).1,h3⟩
def isSp(S:Nat→Bool)(x:Int):Bool:=decide (0≤x)&&S x.toNat
def pY(S:Nat→Bool)(x:Nat)(v:Bool):Nat→Bool:=fun y=>if y=x then v else S y
theorem Ky(S:Nat→Bool)(x:Nat)(v:Bool)(y:Int):isSp (pY S x v) y=if y=(x:Int)then v else isSp S y:=by
 unfold isSp pY
 by_cases h0:0≤y
 ·obtain⟨y,rfl⟩:=Int.eq_ofNat_of_zero_le h0
  by_cases e:y=x
  ·subst e;simp
  ·have:¬((y:Int)=(x:Int)):=by omega
   simp[e,this]
 ·have:¬(y=(x:Int)):=by omega
  simp[h0,this]
structure oZ(D:DataW Unit)(S:Nat→Bool):Prop where
 at_:∀x:Int,Maps.has D (.int .i64 x)=isSp S x
 frames:Frames D
theorem oZ.empty:oZ (.map []) (fun _=>false):=⟨fun x=>by simp[isSp];rfl,[],rfl,List.Pairwise.nil,fun p hp=>by simp at hp⟩
theorem oZ.put{D:DataW Unit}{S:Nat→Bool}(h:oZ D S)(x:Nat)(hx:x<1024)(d:DataW Unit):oZ (D.put (.int .i64 (x:Int)) d) (pY S x true):=
 ⟨fun y=>by
  rw[Ky]
  by_cases e:y=(x:Int)
  ·subst e;rw[if_pos rfl,has_put_same h.frames.isMap (AZ _ (by omega))]
  ·rw[if_neg e,has_put_other (r9 e),h.at_],h.frames.put x hx _⟩
theorem oZ.del{D:DataW Unit}{S:Nat→Bool}(h:oZ D S)(x:Nat):oZ (D.del (.int .i64 (x:Int))) (pY S x false):=
 ⟨fun y=>by
  rw[Ky]
  by_cases e:y=(x:Int)
  ·subst e;rw[if_pos rfl,has_del_same]
  ·rw[if_neg e,has_del_other (r9 e),h.at_],h.frames.del _⟩
def kV(w:World)(b:Nat)(S:Nat→Bool):Prop:=∃(D:DataW Unit) (k:Nat),w.ownsMap Tryz.prog 3 unitElem b k D∧k≤1024∧oZ D S
theorem Sn{w:World}{b k:Nat}{D:DataW Unit}(h:w.ownsMap Tryz.prog 3 unitElem b k D)(m:Nat)(hm:Maps.size D≤m):w.ownsMap Tryz.prog 3 unitElem b m D:=by
 obtain⟨es,clock,hb,F,_,rfl⟩:=h
 refine⟨es,clock,hb,F,?_,rfl⟩
 simpa[Maps.size,length_sorted]using hm
theorem kV.made(w:World):kV (w.alloc (.map #[] 0)) w.heap.size (fun _=>false):=⟨_,0,World.ownsMap_made _ _ _ _,by omega,oZ.empty⟩
theorem kV.isMap{w:World}{b:Nat}{S:Nat→Bool}(h:kV w b S):∃es clock,w.heap[b]? =some (.map es clock):=by
 obtain⟨D,k,⟨es,clock,hb,_⟩,_⟩:=h
 exact⟨es,clock,hb⟩
theorem kV.lt{w:World}{b:Nat}{S:Nat→Bool}(h:kV w b S):b<w.heap.size:=by
 obtain⟨es,clock,hb⟩:=h.isMap
 exact lt_of_block hb
theorem kV.same{w w':World}{b:Nat}{S:Nat→Bool}(h:kV w b S)(e:w'.heap[b]? =w.heap[b]?):kV w' b S:=by
 obtain⟨D,k,⟨es,clock,hb,r⟩,hk,hr⟩:=h
 exact⟨D,k,⟨es,clock,e.trans hb,r⟩,hk,hr⟩
theorem WG(w:World):(zeroValue 287).run Tryz.prog w= .ok (.agg #[]) w:=by kernel_rfl
section
variable (w:World) {ops:Array Oper} {rest:List Oper} {o:Oper} {a:Act} {Q:Exit→Act→World→Prop}
theorem Cb(hg:o.guard=none)(m x v:Operand)(hop:o.op=Op.mapUpdate 259 m x v)(b:Nat)(S:Nat→Bool)(hm:a.eval m= .map (some b))(h:kV w b S)(y:Nat)(hx:a.eval x= .int .i64 (y:Int))(hy:y<1024)(hv:a.eval v= .agg #[])
  (hK:∀w',kV w' b (pY S y true)→w.grownBy w' (some b)→wpList Tryz.prog ops Q rest (a.put o.dst undef) w'):wpList Tryz.prog ops Q (o::rest) a w:=by
 obtain⟨D,k,hown,hk,hr⟩:=h
 refine wpList_mapUpdate_own _ hg m x v 259 hop 3 287 qA Tryz.underlying259 _ b k D hm hown (by unfold maxLen;omega) (.int .i64 (y:Int)) (.agg #[]) (.int .i64 (y:Int)) hx hv (gJ _ (by omega)) (.agg []) [] unitElem_mk fun w' h1 h2=>?_
 have hr':=hr.put y hy (.agg [])
 exact hK w' ⟨_,1024,Sn h1 1024 hr'.frames.size,Nat.le_refl _,hr'⟩ h2
theorem Ad(hg:o.guard=none)(m x:Operand)(hop:o.op=Op.call { callee:=Callee.builtin Builtin.delete,args:=#[m,x],argTypes:=#[259,3] })(b:Nat)(S:Nat→Bool)(hm:a.eval m= .map (some b))(h:kV w b S)(y:Nat)(hx:a.eval x= .int .i64 (y:Int))(hy:y<1024)
  (hK:∀w',kV w' b (pY S y false)→w.grownBy w' (some b)→wpList Tryz.prog ops Q rest (a.put o.dst (.tuple #[])) w'):wpList Tryz.prog ops Q (o::rest) a w:=by
 obtain⟨D,k,hown,hk,hr⟩:=h
 refine wpList_delete_own _ hg m x 259 3 hop 287 qA Tryz.underlying259 _ b k D hm hown (.int .i64 (y:Int)) (.int .i64 (y:Int)) hx (gJ _ (by omega)) fun w' h1 h2=>?_
 exact hK w' ⟨_,k,h1,hk,hr.del y⟩ h2.grown
end
structure Mg(W w:World)(tb sb:Nat)(X:bD)(L:List Int)(R:Nat→Nat)(S:Nat→Bool):Prop where
 own:bX W w X L R
 lw:aM W
 wd:Words L
 box:w.heap[tb]? =some (.cells #[.pointer (some ⟨X.mp,0,none⟩), .pointer (some ⟨X.pb,0,none⟩), .int .i64 0, .map (some sb)] 261 (0,0))
 iK:kV w sb S
 nt:W.heap.size≤tb
 ns:W.heap.size≤sb
 ne:sb≠X.mb
 low:∀x,S x=true→x<X.n
theorem Mg.step{W w w':World}{tb sb:Nat}{X:bD}{L:List Int}{R:Nat→Nat}{S:Nat→Bool}(h:Mg W w tb sb X L R S)(k:Below w.heap.size w w'):Mg W w' tb sb X L R S:=
 ⟨h.own.step k,h.lw,h.wd,below_block k h.box,h.iK.same (k.block _ h.iK.lt),h.nt,h.ns,h.ne,h.low⟩
theorem Mg.Kz{W w:World}{tb sb:Nat}{X:bD}{L:List Int}{R:Nat→Nat}{S:Nat→Bool}(h:Mg W w tb sb X L R S):aM w:=h.lw.below h.own.below
theorem Mg.c0{W w:World}{tb sb:Nat}{X:bD}{L:List Int}{R:Nat→Nat}{S:Nat→Bool}(h:Mg W w tb sb X L R S):w.cell? ⟨tb,0,none⟩=some (.pointer (some ⟨X.mp,0,none⟩)):=by rw[cell_of_row w _ _ _ _ _ h.box];rfl
theorem Mg.c1{W w:World}{tb sb:Nat}{X:bD}{L:List Int}{R:Nat→Nat}{S:Nat→Bool}(h:Mg W w tb sb X L R S):w.cell? ⟨tb,1,none⟩=some (.pointer (some ⟨X.pb,0,none⟩)):=by rw[cell_of_row w _ _ _ _ _ h.box];rfl
theorem Mg.c2{W w:World}{tb sb:Nat}{X:bD}{L:List Int}{R:Nat→Nat}{S:Nat→Bool}(h:Mg W w tb sb X L R S):w.cell? ⟨tb,2,none⟩=some (.int .i64 0):=by rw[cell_of_row w _ _ _ _ _ h.box];rfl
theorem Mg.c3{W w:World}{tb sb:Nat}{X:bD}{L:List Int}{R:Nat→Nat}{S:Nat→Bool}(h:Mg W w tb sb X L R S):w.cell? ⟨tb,3,none⟩=some (.map (some sb)):=by rw[cell_of_row w _ _ _ _ _ h.box];rfl
def mgB(X:bD)(sb:Nat)(k:Nat):Prop:=X.blocks k∨k=sb
theorem Mg.aby{W w:World}{tb sb:Nat}{X:bD}{L:List Int}{R:Nat→Nat}{S:Nat→Bool}(h:Mg W w tb sb X L R S):¬X.all sb:=fun hk=>by
 obtain⟨es,ck,hm⟩:=h.iK.isMap
 rcases hk with(e|e|e)|e|e|e
 ·have:=h.own.st.mem.row;rw[←e,hm]at this;cases this
 ·exact h.ne e
 ·obtain⟨t,ht,e2⟩:=List.mem_map.1 e
  obtain⟨i,hi,e3⟩:=List.getElem_of_mem ht
  have:=(h.own.st.sets i hi).box
  rw[List.getD_eq_getElem?_getD,List.getElem?_eq_getElem hi,Option.getD_some,e3,e2,hm]at this
  cases this
 ·have:=h.own.st.box;rw[←e,hm]at this;cases this
 ·have:=h.own.st.mem.box;rw[←e,hm]at this;cases this
 ·obtain⟨cs,hcs⟩:=bF h.own.st.parts e
  rw[hm]at hcs;cases hcs
theorem Mg.abz{W w:World}{tb sb:Nat}{X:bD}{L:List Int}{R:Nat→Nat}{S:Nat→Bool}(h:Mg W w tb sb X L R S):¬X.all tb∧tb≠sb:=by
 refine⟨h.own.st.other h.box ⟨by decide,by decide,by decide,by decide,by decide⟩,fun e=>?_⟩
 obtain⟨es,ck,hm⟩:=h.iK.isMap
 have:=h.box;rw[e,hm]at this;cases this
structure gB(W w w':World)(tb sb:Nat)(X:bD)(L:List Int)(R:Nat→Nat)(S:Nat→Bool):Prop where
 st:Mg W w' tb sb X L R S
 only:Only w w' (mgB X sb)
theorem gB.stay{W w w':World}{tb sb:Nat}{X:bD}{L:List Int}{R:Nat→Nat}{S:Nat→Bool}(h:Mg W w tb sb X L R S)(k:Below w.heap.size w w'):gB W w w' tb sb X L R S:=⟨h.step k,Only.below k⟩
theorem gB.next{W w w1 w':World}{tb sb:Nat}{X:bD}{L L':List Int}{R R':Nat→Nat}{S S':Nat→Bool}(h:gB W w w1 tb sb X L R S)(k:gB W w1 w' tb sb X L' R' S'):gB W w w' tb sb X L' R' S':=⟨k.st,h.only.trans k.only⟩
theorem Mg.move{W w w':World}{tb sb:Nat}{X:bD}{L L':List Int}{R R':Nat→Nat}{S:Nat→Bool}(h:Mg W w tb sb X L R S)(k:Moves w w' X L' R')(hw:Words L'):gB W w w' tb sb X L' R' S:=
 ⟨⟨h.own.move k,h.lw,hw,k.only.kept h.box (fun e=>h.abz.1 (Or.inl e)),h.iK.same (k.only.block _ h.iK.lt (fun e=>h.aby (Or.inl e))),h.nt,h.ns,h.ne,h.low⟩,k.only.mono fun _ e=>Or.inl e⟩
theorem Mg.turn{W w w':World}{tb sb:Nat}{X:bD}{L:List Int}{R:Nat→Nat}{S S':Nat→Bool}(h:Mg W w tb sb X L R S)(k:kV w' sb S')(hg:w.grownBy w' (some sb))(hl:∀x,S' x=true→x<X.n):gB W w w' tb sb X L R S':=by
 have ho:Only w w' (fun k=>k=sb):=Only.grown hg rfl
 refine⟨⟨⟨h.own.st.kept ho (fun k hk e=>h.aby (e▸hk)),ho.old h.own.below h.own.below.size (fun k e=>e▸h.ns),h.own.new,h.own.laid⟩,h.lw,h.wd,ho.kept h.box h.abz.2,k,h.nt,h.ns,h.ne,hl⟩,ho.mono fun _ e=>Or.inr e⟩
theorem p8(p:Int)(w:World)(h0:0≤p)(h1:p<1024):Calls Tryz.prog 200 #[.int .i64 p] w fun e w'=>e= .returned (.tuple #[.int .i64 (p/32), .int .i64 (p%32)])∧w=w':=by
 have h2:p.tdiv 32=p/32:=Int.tdiv_eq_ediv_of_nonneg h0
 have h3:p.tmod 32=p%32:=Int.tmod_eq_emod_of_nonneg h0
 have b1:0≤p/32:=by omega
 have b2:p/32<1024:=by omega
 have b3:0≤p%32:=by omega
 have b4:p%32<32:=by omega
 go_enter Tryz.func200,Tryz.ntmps200
 go_wp2
 go_ret2
 exact⟨rfl,rfl⟩
end Go.Proofs.YtammlljefhakmaaGreatDoor
namespace Go.Proofs.YtammlljefhakmaaGreatDoor
open Go.RowKit Go.Maps
set_option maxRecDepth 100000
def aa1:Obj:= .cells #[.bool false, .bool false, .bool false, .int .i64 0] 217 (0,0)
set_option maxHeartbeats 1000000 in
theorem Av(tb mp fb n:Nat)(f q a k1 k2:Int)(p x c:Bool)(g:Int)(far:Bool)(w:World)(hc:w.cell? ⟨tb,0,none⟩=some (.pointer (some ⟨mp,0,none⟩)))(hm:w.cell? ⟨mp,0,none⟩=some (.slice (some ⟨fb,0,none⟩) n n))(hf:decide ((n:Int)≤g)=far)
  (hr:∀W,Below w.heap.size w W→Calls Tryz.prog 76 #[.pointer (some ⟨mp,0,none⟩), .int .i64 f, .int .i64 q] W fun e w'=>e= .returned (.tuple #[.int .u32 a, .int .i64 k1])∧Below W.heap.size W w')
  (hg:∀W,Below w.heap.size w W→Calls Tryz.prog 239 #[.int .u32 a] W fun e w'=>e= .returned (.tuple #[ent p x c g, .int .i64 k2])∧Below W.heap.size W w'):
  Calls Tryz.prog 228 #[.pointer (some ⟨tb,0,none⟩), .int .i64 f, .int .i64 q] w fun e w'=>e= .returned (if far then iB z0 else ent p x c g)∧Below w.heap.size w w':=by
 have HM:=Lib.hid hm
 have HC:=Lib.hid hc
 have HR:=Lib.hid hr
 have HG:=Lib.hid hg
 clear hm hr hg
 have c0:(w.alloc (.cells #[.bool false, .bool false, .bool false, .int .i64 0] 217)).cell? ⟨tb,0,none⟩=some (.pointer (some ⟨mp,0,none⟩)):=(((Below.refl w.heap.size w).alloc (Nat.le_refl _) _).cell (p:=⟨tb,0,none⟩) (block_lt_of_cell hc)).trans hc
 go_enter Tryz.func228,Tryz.ntmps228
 go_wp2_with fail
 obtain⟨w0,hw0⟩:∃w0,w0=w.alloc (.cells #[.bool false, .bool false, .bool false, .int .i64 0] 217):=⟨_,rfl⟩
 have B0:Hid (Below w.heap.size w w0):=Lib.hid (by rw[hw0];exact(Below.refl _ _).alloc (Nat.le_refl _) _)
 have R0:Hid (w0.heap[w.heap.size]? =some aa1):=Lib.hid (by rw[hw0];exact heap_alloc_new w _)
 rw[←hw0]
 clear hw0 hc c0
 refine(HR.out _ (by exact B0.out)).mono ?_
 rintro e w1 ⟨rfl,hb⟩
 have B1:=Lib.hid (B0.out.trans (hb.mono B0.out.size))
 have R1:=Lib.hid (below_block hb R0.out)
 clear hb
 go_wp2_with fail
 refine(HG.out _ (by exact B1.out)).mono ?_
 rintro e w2 ⟨rfl,hb⟩
 have B2:=Lib.hid (B1.out.trans (hb.mono B1.out.size))
 have R2:=Lib.hid (below_block hb R1.out)
 clear hb
 go_wp2_with fail
 obtain⟨w3,hw3⟩:∃w3,w3=w2.alloc (.cells #[.bool p, .bool x, .bool c, .int .i64 g] 217):=⟨_,rfl⟩
 have A3:Hid (Below w2.heap.size w2 w3):=Lib.hid (by rw[hw3];exact(Below.refl _ _).alloc (Nat.le_refl _) _)
 have hne:w2.heap.size≠w.heap.size:=fun e=>by have:=lt_of_block R2.out;omega
 have E3:=D9 (show w3.heap[w2.heap.size]? =some (.cells #[.bool p, .bool x, .bool c, .int .i64 g] 217 (0,0)) by rw[hw3];exact heap_alloc_new w2 _)
 rw[←hw3]
 clear hw3
 have B3:=Lib.hid (B2.out.trans (A3.out.mono B2.out.size))
 have R3:=Lib.hid (below_block A3.out R2.out)
 obtain⟨r0,r1,r2,r3,rf⟩:=D9 R3.out
 have f0:=rf 0
 have f1:=rf 1
 have f2:=rf 2
 have f3:=rf 3
 have c0:=(B3.out.cell (p:=⟨tb,0,none⟩) (block_lt_of_cell HC.out)).trans HC.out
 obtain⟨e0,e1,e2,e3,ef⟩:=E3
 clear rf ef
 have Zb:Hid (w3.cell? ⟨mp,0,none⟩=some (.slice (some ⟨fb,0,none⟩) n n)):=Lib.hid ((B3.out.cell (p:=⟨mp,0,none⟩) (block_lt_of_cell HM.out)).trans HM.out)
 cases far with
 |true=>
  go_quiet ((go_at_call 65;exact Calls.quiet_of_same ((aO _ _ _ _ _ (by exact Zb.out)).mono fun _ _ h=>⟨h.1,h.2.symm⟩)))
  go_wp2
  exact bodyPost_ret (v:=ent false false false 0) (by simp[results,Tryz.results228,go_sem,r0,r1,r2,r3]) rfl ⟨rfl,nN (below_drewN B3.out _) _ _ _ _⟩
 |false=>
  go_quiet ((go_at_call 65;exact Calls.quiet_of_same ((aO _ _ _ _ _ (by exact Zb.out)).mono fun _ _ h=>⟨h.1,h.2.symm⟩)))
  go_wp2
  exact bodyPost_ret (v:=ent p x c g) (by simp[results,Tryz.results228,go_sem,r0,r1,r2,r3]) rfl ⟨rfl,nN (below_drewN B3.out _) _ _ _ _⟩
theorem zJ:decode 0=some z0:=by decide
theorem aa2{W w:World}{tb sb:Nat}{X:bD}{L:List Int}{R:Nat→Nat}{S:Nat→Bool}(h:Mg W w tb sb X L R S)(f q:Int):
  Calls Tryz.prog 228 #[.pointer (some ⟨tb,0,none⟩), .int .i64 f, .int .i64 q] w fun e w'=>e= .returned (iB (lD X.n L f q))∧Below w.heap.size w w':=by
 have hm:=h.own.st.mem
 have hL:=h.Kz
 have hn:¬((X.n:Int)≤0):=by have:=hm.pos;omega
 cases he:dV X.n L f q with
 |some e=>
  obtain⟨p,x,c,g⟩:=e
  obtain⟨h1,h2,h3⟩:=BH he
  rw[fD he]
  exact Av tb X.mp X.fb X.n f q _ 0 0 p x c g false w h.c0 hm.iE (decide_eq_false (by simp only at h3;omega)) (fun W hb=>Ik X.mp X.fb X.n L f q W (hm.below hb) h1) (fun W hb=>get_some _ _ W (h.wd _).1 (h.wd _).2 h2 (hL.below hb))
 |none=>
  rw[Fy he]
  rcases Nv he with h1|⟨h1,h2⟩|⟨h1,⟨p,x,c,g⟩,h2,h3⟩
  ·exact Av tb X.mp X.fb X.n f q 0 2 0 false false false 0 false w h.c0 hm.iE (decide_eq_false hn) (fun W hb=>UO X.mp X.fb X.n L f q W (hm.below hb) h1) (fun W hb=>get_some _ _ W (by decide) (by decide) zJ (hL.below hb))
  ·exact Av tb X.mp X.fb X.n f q _ 0 6 false false false 0 false w h.c0 hm.iE (decide_eq_false hn) (fun W hb=>Ik X.mp X.fb X.n L f q W (hm.below hb) h1) (fun W hb=>get_none _ W (h.wd _).1 (h.wd _).2 h2 (hL.below hb))
  ·exact Av tb X.mp X.fb X.n f q _ 0 0 p x c g true w h.c0 hm.iE (decide_eq_true h3) (fun W hb=>Ik X.mp X.fb X.n L f q W (hm.below hb) h1) (fun W hb=>get_some _ _ W (h.wd _).1 (h.wd _).2 h2 (hL.below hb))
theorem Sq(p x c:Bool)(g:Int)(h:nM p x c g=true):0≤fu p x c g∧fu p x c g<4294967296:=by
 obtain⟨h1,h2,_⟩:=Ao h
 unfold fu
 have:=jG p;have:=jH p;have:=jG x;have:=jH x;have:=jG c;have:=jH c
 omega
theorem lF(L:List Int)(i j:Nat)(v:Int)(hi:i<L.length):(L.set i v).getD j 0=if j=i then v else L.getD j 0:=by
 simp only[List.getD_eq_getElem?_getD,List.getElem?_set]
 by_cases e:i=j
 ·subst e;simp[hi]
 ·have:¬j=i:=fun h=>e h.symm
  simp[e,this]
theorem Fz{L:List Int}(h:Words L)(i:Nat)(v:Int)(hi:i<L.length)(hv:0≤v∧v<4294967296):Words (L.set i v):=fun j=>by
 rw[lF _ _ _ _ hi]
 split
 ·exact hv
 ·exact h j
def kK(L:List Int)(f q:Nat)(e:fQ):List Int:=L.set (f*32+q) (fu e.1 e.2.1 e.2.2.1 e.2.2.2)
set_option maxHeartbeats 1000000 in
theorem ad3{W w:World}{tb sb:Nat}{X:bD}{L:List Int}{R:Nat→Nat}{S:Nat→Bool}(h:Mg W w tb sb X L R S)(f q:Nat)(p x c:Bool)(g:Int)(hf:f<X.n)(hq:q<32)(hok:nM p x c g=true):
  Calls Tryz.prog 201 #[.pointer (some ⟨tb,0,none⟩), .int .i64 (f:Int), .int .i64 (q:Int),ent p x c g] w fun e w'=>e= .returned (.tuple #[])∧gB W w w' tb sb X (kK L f q (p,x,c,g)) R S:=by
 have H:=Lib.hid h
 have OK:=Lib.hid hok
 have hw:=Lib.hid (Sq p x c g hok)
 clear h hok
 obtain⟨v,hv⟩:∃v,v=fu p x c g:=⟨_,rfl⟩
 have HV:=Lib.hid hv
 have PUT:Hid (∀W',aM W'→Calls Tryz.prog 229 #[ent p x c g] W' fun e w'=>e= .returned (.tuple #[.int .u32 v, .int .i64 0])∧Below W'.heap.size W' w'):=Lib.hid fun W' hL=>by rw[hv];exact Ii p x c g W' OK.out hL
 clear hv
 go_enter Tryz.func201,Tryz.ntmps201
 go_wp2_with fail
 obtain⟨w0,hw0⟩:∃w0,w0=w.alloc (.cells #[.bool p, .bool x, .bool c, .int .i64 g] 217):=⟨_,rfl⟩
 have B0:Hid (Below w.heap.size w w0):=Lib.hid (by rw[hw0];exact(Below.refl _ _).alloc (Nat.le_refl _) _)
 rw[←hw0]
 clear hw0
 have H0:=Lib.hid (H.out.step B0.out)
 refine(PUT.out _ H0.out.Kz).mono ?_
 rintro e w1 ⟨rfl,hb⟩
 have B1:=Lib.hid (B0.out.trans (hb.mono B0.out.size))
 have H1:=Lib.hid (H0.out.step hb)
 have c0:=H1.out.c0
 clear hb
 go_wp2_with fail
 refine(AY X.mp X.fb X.n f q L v _ H1.out.own.st.mem hf hq).mono ?_
 rintro e w2 ⟨rfl,hp⟩
 have T:=Lib.hid (H1.out.move (L':=kK L f q (p,x,c,g)) (R':=R) ⟨(H1.out.own.st.toG.acX (by rw[kK,←HV.out];exact hp)).NR H1.out.own.st.fit (fun _ _=>rfl),Only.grown hp.grown (Or.inl rfl)⟩ (Fz H1.out.wd _ _ (by rw[H1.out.own.st.mem.len];omega) hw.out))
 clear hp c0
 go_wp2
 go_end0
 exact⟨rfl,(gB.stay H.out B1.out).next T.out⟩
def nG(L:List Int)(f q:Int)(e:fQ):List Int:=kK L f.toNat q.toNat e
theorem FC{W w:World}{tb sb:Nat}{X:bD}{L:List Int}{R:Nat→Nat}{S:Nat→Bool}(h:Mg W w tb sb X L R S)(f q:Int)(p x c:Bool)(g:Int)(hk:j5 X.n f q)(hok:nM p x c g=true):
  Calls Tryz.prog 201 #[.pointer (some ⟨tb,0,none⟩), .int .i64 f, .int .i64 q,ent p x c g] w fun e w'=>e= .returned (.tuple #[])∧gB W w w' tb sb X (nG L f q (p,x,c,g)) R S:=by
 obtain⟨h1,h2,h3,h4⟩:=hk
 obtain⟨f,rfl⟩:=Int.eq_ofNat_of_zero_le h1
 obtain⟨q,rfl⟩:=Int.eq_ofNat_of_zero_le h3
 exact ad3 h f q p x c g (by omega) (by omega) hok
theorem Sr{L:List Int}(h:Words L)(f:Nat)(hf:f*32+32≤L.length):Words (putRow L f zeros):=fun i=>by
 have e:(putRow L f zeros).getD i 0=if f*32≤i∧i<f*32+32 then 0 else L.getD i 0:=by
  have hl:(L.take (f*32)).length=f*32:=by rw[List.length_take];omega
  simp only[putRow,zeros,List.getD_eq_getElem?_getD]
  by_cases h1:i<f*32
  ·rw[List.append_assoc,List.getElem?_append_left (by rw[hl];exact h1),List.getElem?_take,if_pos h1,if_neg (by omega)]
  ·by_cases h2:i<f*32+32
   ·rw[List.append_assoc,List.getElem?_append_right (by rw[hl];omega),hl,List.getElem?_append_left (by simp;omega),if_pos ⟨by omega,h2⟩,List.getElem?_replicate,if_pos (by omega)];rfl
   ·rw[List.append_assoc,List.getElem?_append_right (by rw[hl];omega),hl,List.getElem?_append_right (by simp;omega),if_neg (by omega),List.getElem?_drop,List.length_replicate,show f*32+32+(i-f*32-32)=i by omega]
 rw[e]
 split
 ·decide
 ·exact h i
set_option maxHeartbeats 1000000 in
theorem Pz{W w:World}{tb sb:Nat}{X:bD}{L:List Int}{R R':Nat→Nat}{S:Nat→Bool}(h:Mg W w tb sb X L R S)(f:Int)(hf:I64 f)(hr:l9 X.P R f=R'):
  Calls Tryz.prog 173 #[.pointer (some ⟨tb,0,none⟩), .int .i64 f] w fun e w'=>e= .returned (.tuple #[])∧gB W w w' tb sb X L R' S:=by
 have H:=Lib.hid h
 have c1:=h.c1
 clear h
 go_enter Tryz.func173,Tryz.ntmps173
 go_wp2_with fail
 refine(Px rfl hr H.out.own.st hf).mono ?_
 rintro e w2 ⟨rfl,hp⟩
 have T:=Lib.hid (H.out.move hp H.out.wd)
 clear hp c1
 go_wp2
 go_end0
 exact⟨rfl,T.out⟩
end Go.Proofs.YtammlljefhakmaaGreatDoor
namespace Go.Proofs.YtammlljefhakmaaGreatDoor
open Go.RowKit Go.Maps
set_option maxRecDepth 100000
abbrev sQ(r pg:Int)(p x c:Bool)(g:Int):Value:= .agg #[.int .i64 r, .int .i64 pg, .bool p, .bool x, .bool c, .int .i64 g]
abbrev uV(r pg:Int)(p x c:Bool)(g:Int):Obj:= .cells #[.int .i64 r, .int .i64 pg, .bool p, .bool x, .bool c, .int .i64 g] 257
def eU(e:fQ):Obj:= .cells #[.bool e.1, .bool e.2.1, .bool e.2.2.1, .int .i64 e.2.2.2] 217
def dB(n:Nat)(L:List Int)(r pg:Int):fQ×fQ:=if(lD n L r (pg/32)).1=true then(lD n L r (pg/32),lD n L (lD n L r (pg/32)).2.2.2 (pg%32))else(z0,z0)
def jr(w:World)(b:Nat)(e:fQ):World:=(((w.setCell ⟨b,0,none⟩ (.bool e.1)).setCell ⟨b,1,none⟩ (.bool e.2.1)).setCell ⟨b,2,none⟩ (.bool e.2.2.1)).setCell ⟨b,3,none⟩ (.int .i64 e.2.2.2)
theorem gL{w:World}{b:Nat}{e e':fQ}(h:w.heap[b]? =some (eU e)):(jr w b e').heap[b]? =some (eU e'):=by
 have h1:=heap_setCell_same w b 0 _ _ (.bool e'.1) h
 have h2:=heap_setCell_same _ b 1 _ _ (.bool e'.2.1) h1
 have h3:=heap_setCell_same _ b 2 _ _ (.bool e'.2.2.1) h2
 exact heap_setCell_same _ b 3 _ _ (.int .i64 e'.2.2.2) h3
theorem jU{w:World}{b k:Nat}{e':fQ}(h:k≠b):(jr w b e').heap[k]? =w.heap[k]? :=by
 have hk:∀(u:World) (i:Nat) (v:Value),(u.setCell ⟨b,i,none⟩ v).heap[k]? =u.heap[k]? :=fun u i v=>Below.heap_setCell _ _ _ _ h
 rw[jr,hk,hk,hk,hk]
theorem dM{W w:World}{n b:Nat}{e':fQ}(h:Below n W w)(hb:n≤b):Below n W (jr w b e'):=
 (((h.setCell (p:=⟨b,0,none⟩) hb _).setCell (p:=⟨b,1,none⟩) hb _).setCell (p:=⟨b,2,none⟩) hb _).setCell (p:=⟨b,3,none⟩) hb _
structure gD(w w1:World)(r pg:Int)(p x c:Bool)(g:Int)(a b:fQ):Prop where
 below:Below w.heap.size w w1
 req:w1.heap[w.heap.size]? =some (.cells #[.int .i64 r, .int .i64 pg, .bool p, .bool x, .bool c, .int .i64 g] 257 (0,0))
 one:w1.heap[w.heap.size+1]? =some (eU a)
 two:w1.heap[w.heap.size+1+1]? =some (eU b)
theorem gD.start(w:World)(r pg:Int)(p x c:Bool)(g:Int):gD w (((w.alloc (uV r pg p x c g)).alloc (eU z0)).alloc (eU z0)) r pg p x c g z0 z0:=by
 have h2:=heap_alloc2_new w (uV r pg p x c g) (eU z0)
 have h1:=heap_alloc2_old w (uV r pg p x c g) (eU z0)
 have hs:((w.alloc (uV r pg p x c g)).alloc (eU z0)).heap.size=w.heap.size+1+1:=by simp
 have hb:Below w.heap.size w ((w.alloc (uV r pg p x c g)).alloc (eU z0)):=ak w _ _
 generalize(w.alloc (uV r pg p x c g)).alloc (eU z0)=v at*
 exact⟨hb.alloc hb.size _,below_block ((Below.refl _ _).alloc (Nat.le_refl _) _) h1,below_block ((Below.refl _ _).alloc (Nat.le_refl _) _) h2,by rw[←hs];exact World.alloc_heap_new v _⟩
theorem gD.step{w w1 w2:World}{r pg:Int}{p x c:Bool}{g:Int}{a b:fQ}(h:gD w w1 r pg p x c g a b)(hb:Below w1.heap.size w1 w2):gD w w2 r pg p x c g a b:=
 ⟨h.below.trans (hb.mono h.below.size),below_block hb h.req,below_block hb h.one,below_block hb h.two⟩
theorem gD.drew{w w1:World}{r pg:Int}{p x c:Bool}{g:Int}{a b:fQ}(h:gD w w1 r pg p x c g a b):gD w w1.drew r pg p x c g a b:=⟨h.below.drew,h.req,h.one,h.two⟩
theorem gD.Iy{w w1:World}{r pg:Int}{p x c:Bool}{g:Int}{a b:fQ}(h:gD w w1 r pg p x c g a b)(e:fQ):gD w (jr w1 (w.heap.size+1) e) r pg p x c g e b:=
 ⟨dM h.below (by omega),(jU (by omega)).trans h.req,gL h.one,(jU (by omega)).trans h.two⟩
theorem gD.Sv{w w1:World}{r pg:Int}{p x c:Bool}{g:Int}{a b:fQ}(h:gD w w1 r pg p x c g a b)(e:fQ):gD w (jr w1 (w.heap.size+1+1) e) r pg p x c g a e:=
 ⟨dM h.below (by omega),(jU (by omega)).trans h.req,(jU (by omega)).trans h.one,gL h.two⟩
theorem gD.res{w w1:World}{r pg:Int}{p x c:Bool}{g:Int}{a b:fQ}(h:gD w w1 r pg p x c g a b):
  (w1.cell? ⟨w.heap.size+1,0,none⟩=some (.bool a.1)∧w1.cell? ⟨w.heap.size+1,1,none⟩=some (.bool a.2.1)∧w1.cell? ⟨w.heap.size+1,2,none⟩=some (.bool a.2.2.1)∧w1.cell? ⟨w.heap.size+1,3,none⟩=some (.int .i64 a.2.2.2))∧
  (w1.cell? ⟨w.heap.size+1+1,0,none⟩=some (.bool b.1)∧w1.cell? ⟨w.heap.size+1+1,1,none⟩=some (.bool b.2.1)∧w1.cell? ⟨w.heap.size+1+1,2,none⟩=some (.bool b.2.2.1)∧w1.cell? ⟨w.heap.size+1+1,3,none⟩=some (.int .i64 b.2.2.2)):=by
 obtain⟨a0,a1,a2,a3,_⟩:=D9 h.one
 obtain⟨b0,b1,b2,b3,_⟩:=D9 h.two
 exact⟨⟨a0,a1,a2,a3⟩,b0,b1,b2,b3⟩
theorem aU{w:World}{b:Nat}{e:fQ}(h:w.heap[b]? =some (eU e)):w.cell? ⟨b,0,none⟩=some (.bool e.1)∧w.cell? ⟨b,1,none⟩=some (.bool e.2.1)∧w.cell? ⟨b,2,none⟩=some (.bool e.2.2.1)∧w.cell? ⟨b,3,none⟩=some (.int .i64 e.2.2.2):=by
 obtain⟨a0,a1,a2,a3,_⟩:=D9 h
 exact⟨a0,a1,a2,a3⟩
theorem Iz{W w:World}{tb sb:Nat}{X:bD}{L:List Int}{R:Nat→Nat}{S:Nat→Bool}(h:Mg W w tb sb X L R S)(f q:Int){p x c:Bool}{g:Int}(he:lD X.n L f q=(p,x,c,g)):
  Calls Tryz.prog 228 #[.pointer (some ⟨tb,0,none⟩), .int .i64 f, .int .i64 q] w fun e w'=>e= .returned (ent p x c g)∧Below w.heap.size w w':=by
 have:=aa2 h f q
 rw[he]at this
 exact this
set_option maxHeartbeats 2000000 in
theorem find_ok{W w:World}{tb sb:Nat}{X:bD}{L:List Int}{R:Nat→Nat}{S:Nat→Bool}(h:Mg W w tb sb X L R S)(r pg:Int)(p x c:Bool)(g:Int)(h0:0≤pg)(h1:pg<1024):
  Calls Tryz.prog 193 #[.pointer (some ⟨tb,0,none⟩),sQ r pg p x c g] w fun e w'=>e= .returned (.tuple #[iB (dB X.n L r pg).1,iB (dB X.n L r pg).2])∧Below w.heap.size w w':=by
 have H:=Lib.hid h
 have hz:=Lib.hid h.own.st.mem.pos
 clear h
 go_enter Tryz.func193,Tryz.ntmps193
 go_wp2_with fail
 refine(p8 pg _ h0 h1).mono ?_
 rintro e w' ⟨rfl,rfl⟩
 obtain⟨w0,hw0⟩:∃w0,w0=((w.alloc (uV r pg p x c g)).alloc (eU z0)).alloc (eU z0):=⟨_,rfl⟩
 have F0:Hid (gD w w0 r pg p x c g z0 z0):=Lib.hid (by rw[hw0];exact gD.start w r pg p x c g)
 have M0:=Lib.hid (H.out.step F0.out.below)
 have c0:w0.cell? ⟨w.heap.size,0,none⟩=some (.int .i64 r):=by rw[cell_of_row _ _ _ _ _ _ F0.out.req];rfl
 rw[←show w0=((w.alloc (.cells #[.int .i64 r, .int .i64 pg, .bool p, .bool x, .bool c, .int .i64 g] 257)).alloc (.cells #[.bool false, .bool false, .bool false, .int .i64 0] 217)).alloc (.cells #[.bool false, .bool false, .bool false, .int .i64 0] 217)from hw0]
 clear hw0
 go_wp2_with fail
 obtain⟨⟨tp,tx,tc,tg⟩,ht⟩:∃t,t=lD X.n L r (pg/32):=⟨_,rfl⟩
 have HT:=Lib.hid ht
 refine(Iz M0.out r (pg/32) ht.symm).mono ?_
 clear ht c0
 rintro e w1 ⟨rfl,hb⟩
 have F1:=Lib.hid (F0.out.step hb)
 have M1:=Lib.hid (M0.out.step hb)
 clear hb
 obtain⟨⟨q0,q1,q2,q3⟩,q4,q5,q6,q7⟩:=F1.out.res
 have f0:=frozen_of_row w1 (w.heap.size+1) 0 _ _ F1.out.one
 have f1:=frozen_of_row w1 (w.heap.size+1) 1 _ _ F1.out.one
 have f2:=frozen_of_row w1 (w.heap.size+1) 2 _ _ F1.out.one
 have f3:=frozen_of_row w1 (w.heap.size+1) 3 _ _ F1.out.one
 have g0:=frozen_of_row w1 (w.heap.size+1+1) 0 _ _ F1.out.two
 have g1:=frozen_of_row w1 (w.heap.size+1+1) 1 _ _ F1.out.two
 have g2:=frozen_of_row w1 (w.heap.size+1+1) 2 _ _ F1.out.two
 have g3:=frozen_of_row w1 (w.heap.size+1+1) 3 _ _ F1.out.two
 cases tp with
 | false=>
  go_wp2
  refine bodyPost_ret (v:= .tuple #[iB z0,iB z0]) ?_ rfl ⟨?_,?_⟩
  ·have F2:=((F1.out.Iy (false,tx,tc,tg)).Iy z0).Sv z0
   obtain⟨⟨a0,a1,a2,a3⟩,a4,a5,a6,a7⟩:=F2.res
   simp only[jr,z0]at a0 a1 a2 a3 a4 a5 a6 a7
   simp[results,Tryz.results193,go_sem,a0,a1,a2,a3,a4,a5,a6,a7,z0,iB]
  ·rw[show dB X.n L r pg=(z0,z0) by unfold dB;rw[←HT.out];rfl]
  ·exact(((F1.out.Iy (false,tx,tc,tg)).Iy z0).Sv z0).below
 | true=>
  go_wp2_with fail
  obtain⟨w2,hw2⟩:∃w2,w2=jr w1 (w.heap.size+1) (true,tx,tc,tg):=⟨_,rfl⟩
  have F2:Hid (gD w w2 r pg p x c g (true,tx,tc,tg) z0):=Lib.hid (by rw[hw2];exact F1.out.Iy _)
  have M2:Hid (Mg W w2 tb sb X L R S):=Lib.hid (H.out.step F2.out.below)
  rw[←show w2=(((w1.setCell ⟨w.heap.size+1,0,none⟩ (.bool true)).setCell ⟨w.heap.size+1,1,none⟩ (.bool tx)).setCell ⟨w.heap.size+1,2,none⟩ (.bool tc)).setCell ⟨w.heap.size+1,3,none⟩ (.int .i64 tg)from hw2]
  clear hw2 q0 q1 q2 q3 q4 q5 q6 q7 f0 f1 f2 f3 g0 g1 g2 g3
  obtain⟨⟨q0,q1,q2,q3⟩,q4,q5,q6,q7⟩:=F2.out.res
  obtain⟨⟨op,ox,oc,og⟩,ho⟩:∃t,t=lD X.n L tg (pg%32):=⟨_,rfl⟩
  have HO:=Lib.hid ho
  have D2:Hid (Below w2.heap.size w2 w2.drew):=Lib.hid (Below.refl _ _).drew
  have M3:=Lib.hid (M2.out.step D2.out)
  have F3:=Lib.hid F2.out.drew
  clear ho q4 q5 q6 q7
  go_region_held3 (fun w'=>w'.cell? ⟨w.heap.size+1,0,none⟩=some (.bool true)∧w'.cell? ⟨w.heap.size+1,1,none⟩=some (.bool tx)∧w'.cell? ⟨w.heap.size+1,2,none⟩=some (.bool tc)∧w'.cell? ⟨w.heap.size+1,3,none⟩=some (.int .i64 tg)) (first|go_keep|exact aU (F4.out.Iy (true,tx,tc,tg)).one|exact aU ((F4.out.Iy (true,tx,tc,tg)).Sv (op,ox,oc,og)).one|exact aU (F4.out.Sv (op,ox,oc,og)).one|exact aU ((F4.out.Sv (op,ox,oc,og)).Iy (true,tx,tc,tg)).one)
   (first|(go_at_call 228;refine(Iz M3.out tg (pg%32) HO.out.symm).mono ?_;rintro e w4 ⟨rfl,hb⟩;have F4:=Lib.hid (F3.out.step hb);clear hb;obtain⟨⟨k0,k1,k2,k3⟩,k4,k5,k6,k7⟩:=F4.out.res;have f0:=frozen_of_row w4 (w.heap.size+1) 0 _ _ F4.out.one;have f1:=frozen_of_row w4 (w.heap.size+1) 1 _ _ F4.out.one;have f2:=frozen_of_row w4 (w.heap.size+1) 2 _ _ F4.out.one;have f3:=frozen_of_row w4 (w.heap.size+1) 3 _ _ F4.out.one;have g0:=frozen_of_row w4 (w.heap.size+1+1) 0 _ _ F4.out.two;have g1:=frozen_of_row w4 (w.heap.size+1+1) 1 _ _ F4.out.two;have g2:=frozen_of_row w4 (w.heap.size+1+1) 2 _ _ F4.out.two;have g3:=frozen_of_row w4 (w.heap.size+1+1) 3 _ _ F4.out.two))
  have F5:=Lib.hid ((F4.out.Iy (true,tx,tc,tg)).Sv (op,ox,oc,og))
  clear k0 k1 k2 k3 k4 k5 k6 k7 f0 f1 f2 f3 g0 g1 g2 g3
  clear q0 q1 q2 q3
  go_wp2_with fail
  obtain⟨w5,hw5⟩:∃w5,w5=jr (jr w4 (w.heap.size+1) (true,tx,tc,tg)) (w.heap.size+1+1) (op,ox,oc,og):=⟨_,rfl⟩
  have F6:gD w w5 r pg p x c g (true,tx,tc,tg) (op,ox,oc,og):=by rw[hw5];exact F5.out
  rw[←show w5=(((((((w4.setCell ⟨w.heap.size+1,0,none⟩ (.bool true)).setCell ⟨w.heap.size+1,1,none⟩ (.bool tx)).setCell ⟨w.heap.size+1,2,none⟩ (.bool tc)).setCell ⟨w.heap.size+1,3,none⟩ (.int .i64 tg)).setCell ⟨w.heap.size+1+1,0,none⟩ (.bool op)).setCell ⟨w.heap.size+1+1,1,none⟩ (.bool ox)).setCell ⟨w.heap.size+1+1,2,none⟩ (.bool oc)).setCell ⟨w.heap.size+1+1,3,none⟩ (.int .i64 og)from hw5]
  clear hw5
  obtain⟨⟨a0,a1,a2,a3⟩,a4,a5,a6,a7⟩:=F6.res
  refine bodyPost_ret (v:= .tuple #[iB (true,tx,tc,tg),iB (op,ox,oc,og)]) ?_ rfl ⟨?_,F6.below⟩
  ·simp only at a0 a1 a2 a3 a4 a5 a6 a7
   simp[results,Tryz.results193,go_sem,a0,a1,a2,a3,a4,a5,a6,a7,iB]
  ·rw[show dB X.n L r pg=((true,tx,tc,tg),(op,ox,oc,og)) by unfold dB;rw[←HT.out,HO.out];rfl]
end Go.Proofs.YtammlljefhakmaaGreatDoor
namespace Go.Proofs.YtammlljefhakmaaGreatDoor
open Go.RowKit Go.Maps
set_option maxRecDepth 100000
theorem iW(w:World)(r pg:Int)(p x c:Bool)(g:Int):Below w.heap.size w (w.alloc (uV r pg p x c g)):=(Below.refl _ _).alloc (Nat.le_refl _) _
theorem uD{W w:World}{tb sb:Nat}{X:bD}{L:List Int}{R:Nat→Nat}{S:Nat→Bool}(h:Mg W w tb sb X L R S)(r pg:Int)(p x c:Bool)(g:Int):
  Calls Tryz.prog 170 #[.pointer (some ⟨tb,0,none⟩),sQ r pg p x c g] w fun e w'=>e= .returned (.int .i64 0)∧Below w.heap.size w w':=by
 have c0:=(h.step (iW w r pg p x c g)).c0
 have B:=Lib.hid (iW w r pg p x c g)
 clear h
 go_enter Tryz.func170,Tryz.ntmps170
 go_wp2
 go_ret
 exact⟨rfl,B.out⟩
def kL(pg:Int):Int:=if 0≤pg∧pg<1024 then 0 else 2
theorem qI(w:World)(r pg:Int)(p x c:Bool)(g:Int)(hp:I64 pg):
  Calls Tryz.prog 191 #[sQ r pg p x c g] w fun e w'=>e= .returned (.int .i64 (kL pg))∧Below w.heap.size w w':=by
 have B:=Lib.hid (iW w r pg p x c g)
 by_cases h0:pg<0
 ·have d0:decide (pg<0)=true:=decide_eq_true h0
  have e:kL pg=2:=by unfold kL;rw[if_neg (by omega)]
  rw[e]
  clear e
  go_enter Tryz.func191,Tryz.ntmps191
  go_wp2
  go_ret
  exact⟨rfl,B.out⟩
 ·have d0:decide (pg<0)=false:=decide_eq_false h0
  by_cases h1:1024≤pg
  ·have d1:decide ((1024:Int)≤pg)=true:=decide_eq_true h1
   have e:kL pg=2:=by unfold kL;rw[if_neg (by omega)]
   rw[e]
   clear e
   go_enter Tryz.func191,Tryz.ntmps191
   go_wp2
   go_ret
   exact⟨rfl,B.out⟩
  ·have d1:decide ((1024:Int)≤pg)=false:=decide_eq_false h1
   have e:kL pg=0:=by unfold kL;rw[if_pos (by omega)]
   rw[e]
   clear e
   go_enter Tryz.func191,Tryz.ntmps191
   go_wp2
   go_ret
   exact⟨rfl,B.out⟩
def KA(n:Nat)(p x c:Bool)(g:Int):Bool:=p&&(decide (g<(n:Int))&&nM p x c g)
def o7(n:Nat)(p x c:Bool)(g:Int):Int:=if KA n p x c g then 0 else 2
set_option maxHeartbeats 1000000 in
theorem KC{W w:World}{tb sb:Nat}{X:bD}{L:List Int}{R:Nat→Nat}{S:Nat→Bool}(h:Mg W w tb sb X L R S)(r pg:Int)(p x c:Bool)(g:Int):
  Calls Tryz.prog 211 #[.pointer (some ⟨tb,0,none⟩),sQ r pg p x c g] w fun e w'=>e= .returned (.int .i64 (o7 X.n p x c g))∧Below w.heap.size w w':=by
 obtain⟨w0,hw0⟩:∃w0,w0=w.alloc (uV r pg p x c g):=⟨_,rfl⟩
 have B:=Lib.hid (iW w r pg p x c g)
 rw[←hw0]at B
 have M0:=Lib.hid (h.step B.out)
 have c0:=M0.out.c0
 have HM:Hid (w0.cell? ⟨X.mp,0,none⟩=some (.slice (some ⟨X.fb,0,none⟩) X.n X.n)):=Lib.hid M0.out.own.st.mem.iE
 have hq:w0.heap[w.heap.size]? =some (.cells #[.int .i64 r, .int .i64 pg, .bool p, .bool x, .bool c, .int .i64 g] 257 (0,0)):=by rw[hw0];exact heap_alloc_new w _
 have q2:w0.cell? ⟨w.heap.size,2,none⟩=some (.bool p):=by rw[cell_of_row _ _ _ _ _ _ hq];rfl
 have q3:w0.cell? ⟨w.heap.size,3,none⟩=some (.bool x):=by rw[cell_of_row _ _ _ _ _ _ hq];rfl
 have q4:w0.cell? ⟨w.heap.size,4,none⟩=some (.bool c):=by rw[cell_of_row _ _ _ _ _ _ hq];rfl
 have q5:w0.cell? ⟨w.heap.size,5,none⟩=some (.int .i64 g):=by rw[cell_of_row _ _ _ _ _ _ hq];rfl
 clear hq h
 cases p with
 |false=>
  rw[show o7 X.n false x c g=2 by rfl]
  go_enter Tryz.func211,Tryz.ntmps211
  go_wp2_with fail
  rw[←hw0]
  clear hw0
  go_quiet ((go_at_call 65;exact Calls.quiet_of_same ((aO _ _ _ _ _ (by exact HM.out)).mono fun _ _ h=>⟨h.1,h.2.symm⟩)))
  go_wp2
  go_ret
  exact⟨rfl,below_drewN B.out _⟩
 | true=>
  by_cases hf:(X.n:Int)≤g
  ·have d1:decide ((X.n:Int)≤g)=true:=decide_eq_true hf
   rw[show o7 X.n true x c g=2 by unfold o7 KA;rw[decide_eq_false (by omega)];rfl]
   go_enter Tryz.func211,Tryz.ntmps211
   go_wp2_with fail
   rw[←hw0]
   clear hw0
   go_quiet ((go_at_call 65;exact Calls.quiet_of_same ((aO _ _ _ _ _ (by exact HM.out)).mono fun _ _ h=>⟨h.1,h.2.symm⟩)))
   go_wp2
   go_ret
   exact⟨rfl,below_drewN B.out _⟩
  ·have d1:decide ((X.n:Int)≤g)=false:=decide_eq_false hf
   have E:Hid (o7 X.n true x c g=acB (nM true x c g)):=Lib.hid (by unfold o7 KA acB;rw[decide_eq_true (by omega)];simp)
   go_enter Tryz.func211,Tryz.ntmps211
   go_wp2_with fail
   rw[←hw0]
   clear hw0
   go_quiet ((go_at_call 65;exact Calls.quiet_of_same ((aO _ _ _ _ _ (by exact HM.out)).mono fun _ _ h=>⟨h.1,h.2.symm⟩)))
   go_wp2_with fail
   refine(xU true x c g _).mono ?_
   rintro e w2 ⟨rfl,hb⟩
   go_wp2
   go_ret
   exact⟨by rw[E.out];rfl,(below_drewN B.out _).trans (hb.mono (below_drewN B.out _).size)⟩
theorem PI{w:World}{b:Nat}{S:Nat→Bool}(h:kV w b S)(y:Int)(hy:I64 y)(c:Bool)(hc:isSp S y=c):(Instr.lookup 259 (.map (some b)) (.int .i64 y) true).run Tryz.prog w= .ok (.tuple #[.agg #[], .bool c]) w:=by
 obtain⟨D,k,hown,_,hr⟩:=h
 obtain⟨v,ps,hrun,hv⟩:=hown.look_ok qA Tryz.underlying259 (WG w) (zd:= .agg []) (zp:=[]) unitElem_mk (gJ y hy)
 obtain⟨rfl,_⟩:=unitElem_inv hv
 rw[hr.at_ y,hc]at hrun
 exact hrun
def bY(S:Nat→Bool)(r:Int):Int:=if isSp S r then 0 else 4
set_option maxHeartbeats 1000000 in
theorem nS{W w:World}{tb sb:Nat}{X:bD}{L:List Int}{R:Nat→Nat}{S:Nat→Bool}(h:Mg W w tb sb X L R S)(r pg:Int)(p x c:Bool)(g:Int)(hr:I64 r):
  Calls Tryz.prog 171 #[.pointer (some ⟨tb,0,none⟩),sQ r pg p x c g] w fun e w'=>e= .returned (.int .i64 (bY S r))∧Below w.heap.size w w':=by
 obtain⟨w0,hw0⟩:∃w0,w0=w.alloc (uV r pg p x c g):=⟨_,rfl⟩
 have B:=Lib.hid (iW w r pg p x c g)
 rw[←hw0]at B
 have M0:=Lib.hid (h.step B.out)
 have c3:=M0.out.c3
 have hq:w0.heap[w.heap.size]? =some (.cells #[.int .i64 r, .int .i64 pg, .bool p, .bool x, .bool c, .int .i64 g] 257 (0,0)):=by rw[hw0];exact heap_alloc_new w _
 have q0:w0.cell? ⟨w.heap.size,0,none⟩=some (.int .i64 r):=by rw[cell_of_row _ _ _ _ _ _ hq];rfl
 have SPC:Hid (∀k,kV (w0.drewN k) sb S):=Lib.hid fun k=>M0.out.iK.same rfl
 clear hq h
 obtain⟨b,hs⟩:∃b,isSp S r=b:=⟨_,rfl⟩
 have HS:=Lib.hid hs
 have hl:=PI M0.out.iK r hr b hs
 go_enter Tryz.func171,Tryz.ntmps171
 go_wp2_with fail
 rw[←hw0]
 clear hw0 hs
 have KP:Hid (∀w',Below w0.heap.size w0 w'→w'.cell? ⟨tb,3,none⟩=some (.map (some sb))∧w'.cell? ⟨w.heap.size,0,none⟩=some (.int .i64 r)∧(Instr.lookup 259 (.map (some sb)) (.int .i64 r) true).run Tryz.prog w'= .ok (.tuple #[.agg #[], .bool b]) w'):=Lib.hid fun w' hb=>⟨(M0.out.step hb).c3,(hb.cell (p:=⟨w.heap.size,0,none⟩) (block_lt_of_cell q0)).trans q0,PI (M0.out.step hb).iK r hr b HS.out⟩
 go_region_held3 (fun w'=>w'.cell? ⟨tb,3,none⟩=some (.map (some sb))∧w'.cell? ⟨w.heap.size,0,none⟩=some (.int .i64 r)∧(Instr.lookup 259 (.map (some sb)) (.int .i64 r) true).run Tryz.prog w'= .ok (.tuple #[.agg #[], .bool b]) w') (first|exact KP.out _ (Below.refl _ _).drew|exact KP.out _ ((Below.refl _ _).drew.alloc (Nat.le_refl _) _))
  (fail)
 all_goals
  have B2:Hid (Below w.heap.size w (w0.alloc (.cells #[] 287)).drew):=Lib.hid (B.out.alloc B.out.size _).drew
  generalize(w0.alloc (.cells #[] 287)).drew=w5 at*
  cases b with
  |true=>
   go_wp2
   go_ret
   exact⟨by unfold bY;rw[HS.out];rfl,B2.out⟩
  |false=>
   go_wp2
   go_ret
   exact⟨by unfold bY;rw[HS.out];rfl,B2.out⟩
theorem uE{W w:World}{tb sb:Nat}{X:bD}{L:List Int}{R:Nat→Nat}{S:Nat→Bool}(h:Mg W w tb sb X L R S)(r pg:Int)(p x c:Bool)(g:Int)(h0:0≤pg)(h1:pg<1024){tp tx tc op ox oc:Bool}{tg og:Int}(he:dB X.n L r pg=((tp,tx,tc,tg),(op,ox,oc,og))):
  Calls Tryz.prog 193 #[.pointer (some ⟨tb,0,none⟩),sQ r pg p x c g] w fun e w'=>e= .returned (.tuple #[ent tp tx tc tg,ent op ox oc og])∧Below w.heap.size w w':=by
 have:=find_ok h r pg p x c g h0 h1
 rw[he]at this
 exact this
def o8(n:Nat)(L:List Int)(r pg:Int):Int:=if(dB n L r pg).2.1=true then 0 else 4
set_option maxHeartbeats 1000000 in
theorem yh{W w:World}{tb sb:Nat}{X:bD}{L:List Int}{R:Nat→Nat}{S:Nat→Bool}(h:Mg W w tb sb X L R S)(r pg:Int)(p x c:Bool)(g:Int)(h0:0≤pg)(h1:pg<1024):
  Calls Tryz.prog 192 #[.pointer (some ⟨tb,0,none⟩),sQ r pg p x c g] w fun e w'=>e= .returned (.int .i64 (o8 X.n L r pg))∧Below w.heap.size w w':=by
 obtain⟨⟨⟨tp,tx,tc,tg⟩,op,ox,oc,og⟩,he⟩:∃t,t=dB X.n L r pg:=⟨_,rfl⟩
 have HE:=Lib.hid he
 have H:=Lib.hid h
 have B:=Lib.hid (iW w r pg p x c g)
 clear h he
 go_enter Tryz.func192,Tryz.ntmps192
 go_wp2_with fail
 refine(uE (H.out.step B.out) r pg p x c g h0 h1 HE.out.symm).mono ?_
 rintro e w1 ⟨rfl,hb⟩
 have B1:=Lib.hid (B.out.trans (hb.mono B.out.size))
 clear hb
 cases op with
 |true=>
  go_wp2
  go_ret
  exact⟨by unfold o8;rw[←HE.out];rfl,(B1.out.alloc B1.out.size _).alloc (by have:=B1.out.size;simp;omega) _⟩
 |false=>
  go_wp2
  go_ret
  exact⟨by unfold o8;rw[←HE.out];rfl,(B1.out.alloc B1.out.size _).alloc (by have:=B1.out.size;simp;omega) _⟩
def Cc(n:Nat)(L:List Int)(r pg:Int):Int:=if(dB n L r pg).2.1=true then 5 else 0
set_option maxHeartbeats 1000000 in
theorem KF{W w:World}{tb sb:Nat}{X:bD}{L:List Int}{R:Nat→Nat}{S:Nat→Bool}(h:Mg W w tb sb X L R S)(r pg:Int)(p x c:Bool)(g:Int)(h0:0≤pg)(h1:pg<1024):
  Calls Tryz.prog 212 #[.pointer (some ⟨tb,0,none⟩),sQ r pg p x c g] w fun e w'=>e= .returned (.int .i64 (Cc X.n L r pg))∧Below w.heap.size w w':=by
 have H:=Lib.hid h
 have B:=Lib.hid (iW w r pg p x c g)
 have hm:=yh (h.step B.out) r pg p x c g h0 h1
 clear h
 unfold o8 at hm
 unfold Cc
 by_cases hf:(dB X.n L r pg).2.1=true
 ·rw[if_pos hf]at hm ⊢
  have HM:=Lib.hid hm
  clear hm hf
  go_enter Tryz.func212,Tryz.ntmps212
  go_wp2_with fail
  refine HM.out.mono ?_
  rintro e w1 ⟨rfl,hb⟩
  have B1:=Lib.hid (B.out.trans (hb.mono B.out.size))
  clear hb
  go_wp2
  go_ret
  exact⟨rfl,B1.out⟩
 ·rw[if_neg hf]at hm ⊢
  have HM:=Lib.hid hm
  clear hm hf
  go_enter Tryz.func212,Tryz.ntmps212
  go_wp2_with fail
  refine HM.out.mono ?_
  rintro e w1 ⟨rfl,hb⟩
  have B1:=Lib.hid (B.out.trans (hb.mono B.out.size))
  clear hb
  go_wp2
  go_ret
  exact⟨rfl,B1.out⟩
end Go.Proofs.YtammlljefhakmaaGreatDoor
namespace Go.Proofs.YtammlljefhakmaaGreatDoor
open Go.RowKit Go.Maps Go.Shelf
attribute [local go_sem] Oper.semAt_some
set_option maxRecDepth 100000
abbrev iX:=Int×fQ
def cB(n:Nat)(L:List Int)(t:Int):Nat→List iX
 |0=>[]
 |k+1=>cB n L t k++(if(lD n L t (k:Int)).1=true then[((k:Int),lD n L t (k:Int))]else[])
theorem lG{n:Nat}{L:List Int}{t:Int}{k:Nat}{e:fQ}(h:lD n L t (k:Int)=e)(hp:e.1=true):cB n L t (k+1)=cB n L t k++[((k:Int),e)]:=by
 simp[cB,h,hp]
theorem uF{n:Nat}{L:List Int}{t:Int}{k:Nat}(hp:(lD n L t (k:Int)).1=false):cB n L t (k+1)=cB n L t k:=by
 simp[cB,hp]
theorem Ce(n:Nat)(L:List Int)(t:Int){m k:Nat}(h:m≤k):cB n L t m <+: cB n L t k:=by
 obtain⟨d,rfl⟩:=Nat.exists_eq_add_of_le h
 clear h
 induction d with
 |zero=>exact List.prefix_rfl
 |succ d ih=>exact ih.trans (List.prefix_append _ _)
theorem qJ(n:Nat)(L:List Int)(t:Int)(k:Nat):∀x∈cB n L t k,∃j:Nat,j<k∧x=((j:Int),lD n L t (j:Int))∧(lD n L t (j:Int)).1=true:=by
 induction k with
 |zero=>intro x h;simp[cB]at h
 | succ k ih=>
  intro x h
  simp only[cB,List.mem_append]at h
  rcases h with h|h
  ·obtain⟨j,h1,h2⟩:=ih x h
   exact⟨j,by omega,h2⟩
  ·split at h
   ·rename_i hp
    simp only[List.mem_singleton]at h
    exact⟨k,by omega,h,hp⟩
   ·simp at h
theorem lX(n:Nat)(L:List Int)(t:Int)(k:Nat):(cB n L t k).length≤k:=by
 induction k with
 |zero=>simp[cB]
 |succ k ih=>simp only[cB,List.length_append];split<;>simp<;>omega
def gZ(n:Nat)(L:List Int)(t:Int):List iX:=cB n L t 32
def KG(x:iX):Array Value:=#[.int .i64 x.1,iB x.2]
theorem qK(q:Option Addr)(t:Int)(w:World):Calls Tryz.prog 207 #[.pointer q, .int .i64 t] w fun e w'=>e= .returned (.func (.func 230) #[] #[.pointer (some ⟨w.heap.size,0,none⟩), .pointer (some ⟨w.heap.size+1,0,none⟩)])∧w'=(w.alloc (.cells #[.pointer q] 132)).alloc (.cells #[.int .i64 t] 3):=by
 have pE:∀(fn:Fn) (first cap:Array Value) (w:World),(Instr.makeFunc fn first cap).run Tryz.prog w= .ok (.func fn first cap) w:=fun _ _ _ _=>rfl
 go_enter Tryz.func207,Tryz.ntmps207
 go_wp2
 go_ret
 exact⟨rfl,rfl⟩
structure rG(w0 W:World)(b1 b2 tb:Nat)(t:Int)(J:List iX→World→Prop)(l:List iX)(wr:World):Prop where
 gG:Below w0.heap.size w0 wr
 size:W.heap.size≤wr.heap.size
 sw:wr.heap[b1]? =some (.cells #[.pointer (some ⟨tb,0,none⟩)] 132 (0,0))
 KH:wr.heap[b2]? =some (.cells #[.int .i64 t] 3 (0,0))
 told:J l wr
theorem rG.next{w0 W wr W3:World}{b1 b2 tb:Nat}{t:Int}{J:List iX→World→Prop}{l l':List iX}{K:Nat→Prop}(h:rG w0 W b1 b2 tb t J l wr)(hs:w0.heap.size≤W.heap.size)(hK:∀k,k<w0.heap.size→K k)(h1:K b1)(h2:K b2)(hk:Keep K W.heap.size wr W3)(hJ:J l' W3):rG w0 W b1 b2 tb t J l' W3:=
 ⟨h.gG.trans (hk.below (Nat.le_trans hs h.size) hK),Nat.le_trans h.size hk.size,(hk.same b1 (lt_of_block h.sw) (Or.inl h1)).trans h.sw,(hk.same b2 (lt_of_block h.KH) (Or.inl h2)).trans h.KH,hJ⟩
theorem rG.step{w0 W wr w2:World}{b1 b2 tb:Nat}{t:Int}{J:List iX→World→Prop}{l:List iX}(h:rG w0 W b1 b2 tb t J l wr)(hs:w0.heap.size≤W.heap.size)(hJ:iH W.heap.size J)(hb:Below wr.heap.size wr w2):rG w0 W b1 b2 tb t J l w2:=
 ⟨h.gG.trans (hb.mono (Nat.le_trans hs h.size)),Nat.le_trans h.size hb.size,below_block hb h.sw,below_block hb h.KH,hJ _ _ _ h.told (hb.mono h.size)⟩
theorem rG.c1{w0 W wr:World}{b1 b2 tb:Nat}{t:Int}{J:List iX→World→Prop}{l:List iX}(h:rG w0 W b1 b2 tb t J l wr):wr.cell? ⟨b1,0,none⟩=some (.pointer (some ⟨tb,0,none⟩)):=by rw[cell_of_row _ _ _ _ _ _ h.sw];rfl
theorem rG.c2{w0 W wr:World}{b1 b2 tb:Nat}{t:Int}{J:List iX→World→Prop}{l:List iX}(h:rG w0 W b1 b2 tb t J l wr):wr.cell? ⟨b2,0,none⟩=some (.int .i64 t):=by rw[cell_of_row _ _ _ _ _ _ h.KH];rfl
set_option maxHeartbeats 4000000 in
theorem Sw{Wl w0 w:World}{tb sb:Nat}{X:bD}{L:List Int}{R:Nat→Nat}{S:Nat→Bool}(h:Mg Wl w0 tb sb X L R S)(hb0:Below w0.heap.size w0 w)(b1 b2:Nat)(t:Int)(hx1:w.heap[b1]? =some (.cells #[.pointer (some ⟨tb,0,none⟩)] 132 (0,0)))(hx2:w.heap[b2]? =some (.cells #[.int .i64 t] 3 (0,0)))
  (K:Nat→Prop)(hK:∀k,k<w0.heap.size→K k)(hK1:K b1)(hK2:K b2):
  Seq Tryz.prog 230 #[.pointer (some ⟨b1,0,none⟩), .pointer (some ⟨b2,0,none⟩)] KG (gZ X.n L t) K w:=by
 intro l J Jx W hW hJ hJx hY h0
 have hsz:w0.heap.size≤W.heap.size:=Nat.le_trans hb0.size hW.size
 have T0:Hid (rG w0 W b1 b2 tb t J (cB X.n L t 0) W):=Lib.hid ⟨hb0.trans (hW.mono hb0.size),Nat.le_refl _,below_block hW hx1,below_block hW hx2,h0⟩
 have M0:=Lib.hid h
 clear hb0 hW h hx1 hx2 h0
 refine(callsIn_wide (n:=5)).1 ?_
 refine callsIn_of_wp Tryz.func230 rfl trivial ?_ rfl
 simp only[Tryz.ntmps230,List.size_toArray,List.length_cons,List.length_nil,Nat.reduceAdd,Nat.reduceSub,Array.replicate_succ,Array.replicate_zero,List.push_toArray,List.append_toArray,List.nil_append,List.cons_append]
 gi_wp2
 gi_loopw [6] (fun i wr=>∃j:Nat,i= .int .i64 (j:Int)∧j≤32∧rG w0 W b1 b2 tb t J (cB X.n L t j) wr) (fun i _=>(32-(intOf i).toNat))
 case atStart=>exact⟨0,rfl,by omega,T0.out⟩
 case round=>
  obtain⟨j,rfl,hj,hR⟩:=hrel
  have TR:=Lib.hid hR
  clear hR
  by_cases hlt:j<32
  ·have c1:=TR.out.c1
   have c2:=TR.out.c2
   obtain⟨⟨p,x,c,g⟩,he⟩:∃e,e=lD X.n L t (j:Int):=⟨_,rfl⟩
   have HE:=Lib.hid he
   clear he
   gi_wp2_with fail
   refine⟨trivial,?_⟩
   refine(callsIn_wide.2 (Iz (M0.out.step TR.out.gG) t (j:Int) HE.out.symm)).mono ?_
   rintro e w1 ⟨rfl,hb⟩
   have T1:=Lib.hid (TR.out.step hsz hJ hb)
   have T2:=Lib.hid (T1.out.step hsz hJ ((Below.refl _ _).alloc (Nat.le_refl _) (.cells #[.bool p, .bool x, .bool c, .int .i64 g] 217)))
   clear hb c1 c2
   cases p with
   | true=>
    have hpre:cB X.n L t j++[((j:Int),(true,x,c,g))] <+: gZ X.n L t:=by rw[←lG HE.out.symm rfl];exact Ce _ _ _ (by omega)
    obtain⟨fn,tmps,assign,body,hy,hR⟩:=hY (cB X.n L t j) ((j:Int),(true,x,c,g)) (w1.alloc (.cells #[.bool true, .bool x, .bool c, .int .i64 g] 217)) 4 T2.out.told T2.out.size hpre
    dsimp only[KG,iB]at hy
    have PRE:=Lib.hid hpre
    have HR:=Lib.hid hR
    clear hpre hR
    gi_wp2
    refine HR.out.mono ?_
    rintro e W3 ⟨hk,⟨rfl,hJ3⟩|⟨rfl,hJ3⟩⟩
    ·have T3:=Lib.hid (T2.out.next hsz hK hK1 hK2 hk hJ3)
     clear hk hJ3
     gi_wp2
     go_roundw
     case rel=>exact⟨j+1,by go_num,by omega,by rw[lG HE.out.symm rfl];exact T3.out⟩
     case measure=>simp[intOf];omega
    ·gi_wp2
     refine bodyPost_ret (results_none rfl _ _ _) rfl ?_
     exact⟨⟨_,rfl⟩,Or.inr ⟨_,PRE.out,hJ3⟩⟩
   |false=>
    gi_wp2
    refine⟨fun _ h=>(by cases h),?_⟩
    gi_wp2
    go_roundw
    case rel=>exact⟨j+1,by go_num,by omega,by rw[uF (by rw[←HE.out])];exact T2.out⟩
    case measure=>simp[intOf];omega
  ·obtain rfl:j=32:=by omega
   gi_wp2
   go_end0
   exact⟨⟨_,rfl⟩,Or.inl TR.out.told⟩
end Go.Proofs.YtammlljefhakmaaGreatDoor
namespace Go.Proofs.YtammlljefhakmaaGreatDoor
open Go.RowKit Go.Maps Go.Shelf
attribute [local go_sem] Oper.semAt_some
set_option maxRecDepth 100000
def mR(n:Nat)(L:List Int)(t:Int):Bool:=(gZ n L t).isEmpty
structure o9(w V:World)(v:Bool):Prop where
 gG:Below w.heap.size w V
 res:V.heap[w.heap.size]? =some (.cells #[.bool v] 4 (0,0))
theorem o9.hangs{β:Type}{w:World}{B:Nat}(hw:w.heap.size<B)(v:Bool):iH B (fun(_:β) V=>o9 w V v):=
 fun _ _ _ h hb'=>⟨h.gG.trans (hb'.mono (by omega)),(hb'.block _ hw).trans h.res⟩
set_option maxHeartbeats 4000000 in
theorem PK{Wl w:World}{tb sb:Nat}{X:bD}{L:List Int}{R:Nat→Nat}{S:Nat→Bool}(h:Mg Wl w tb sb X L R S)(t:Int):
  Calls Tryz.prog 202 #[.pointer (some ⟨tb,0,none⟩), .int .i64 t] w fun e w'=>e= .returned (.bool (mR X.n L t))∧Below w.heap.size w w':=by
 obtain⟨W1,hW1⟩:∃W1,W1=((w.alloc (.cells #[.bool false] 4)).alloc (.cells #[.pointer (some ⟨tb,0,none⟩)] 132)).alloc (.cells #[.int .i64 t] 3):=⟨_,rfl⟩
 have hz1:W1.heap.size=w.heap.size+3:=by rw[hW1];simp
 obtain⟨wa,oD⟩:∃wa,wa=w.alloc (.cells #[.bool false] 4):=⟨_,rfl⟩
 have hza:wa.heap.size=w.heap.size+1:=by rw[oD];simp
 have hba:Below w.heap.size w wa:=by rw[oD];exact(Below.refl _ _).alloc (Nat.le_refl _) _
 have hra:wa.heap[w.heap.size]? =some (.cells #[.bool false] 4 (0,0)):=by rw[oD];exact heap_alloc_new w _
 have hW1':W1=(wa.alloc (.cells #[.pointer (some ⟨tb,0,none⟩)] 132)).alloc (.cells #[.int .i64 t] 3):=by rw[hW1,oD]
 have hb1:Below wa.heap.size wa W1:=by rw[hW1'];exact ak wa _ _
 have hx1:W1.heap[wa.heap.size]? =some (.cells #[.pointer (some ⟨tb,0,none⟩)] 132 (0,0)):=by rw[hW1'];exact heap_alloc2_old _ _ _
 have hx2:W1.heap[wa.heap.size+1]? =some (.cells #[.int .i64 t] 3 (0,0)):=by rw[hW1'];exact heap_alloc2_new _ _ _
 rw[hza]at hx1 hx2
 have B0:Hid (o9 w W1 false):=Lib.hid ⟨hba.trans (hb1.mono hba.size),below_block hb1 hra⟩
 have hK:∀k,(k<w.heap.size∨k=w.heap.size+1∨k=w.heap.size+1+1)→k<W1.heap.size:=by intro k h;omega
 have hseq:=Sw h B0.out.gG (w.heap.size+1) (w.heap.size+1+1) t hx1 hx2 (fun k=>k<w.heap.size∨k=w.heap.size+1∨k=w.heap.size+1+1) (fun k h=>Or.inl h) (Or.inr (Or.inl rfl)) (Or.inr (Or.inr rfl))
 obtain⟨E,hE⟩:∃E,E=gZ X.n L t:=⟨_,rfl⟩
 rw[←hE]at hseq
 have HE:Hid (mR X.n L t=E.isEmpty):=Lib.hid (by rw[hE];rfl)
 rw[HE.out]
 clear hW1' oD hba hza hra hb1 hx1 hx2 h hE
 clear wa
 refine(callsIn_wide (n:=12)).1 ?_
 refine callsIn_of_wp_marks Tryz.func202 rfl trivial ?_ rfl
 simp only[Tryz.ntmps202,List.size_toArray,List.length_cons,List.length_nil,Nat.reduceAdd,Nat.reduceSub,Array.replicate_succ,Array.replicate_zero,List.push_toArray,List.append_toArray,List.nil_append,List.cons_append]
 gi_wp2_with (refine⟨trivial,?_⟩;gi_at_call 207;refine(callsIn_wide.2 (qK _ _ _)).mono ?_;rintro e w' ⟨rfl,rfl⟩)
 rw[←hW1]
 clear hW1
 refine Ro (gf:=230) (lb:=#[.pointer (some ⟨w.heap.size+1,0,none⟩), .pointer (some ⟨w.heap.size+1+1,0,none⟩)]) rfl (enters Tryz.func230 rfl rfl) hseq (Below.refl _ _) (by intro _;rfl) hK
  (fun pre V=>pre=[]∧o9 w V false)
  (fun c pre V=>(c= .ret∧pre≠[])∧o9 w V false)
  ((Bj _ _).and (o9.hangs (by omega) false))
  (fun c=>(Bj _ _).and (o9.hangs (by omega) false))
  ⟨rfl,B0.out⟩
  (fun x a' _=>a'={ tmps:=#[.pointer (some ⟨tb,0,none⟩), .int .i64 t,undef,undef, .pointer (some ⟨w.heap.size,0,none⟩), .pointer (some ⟨tb,0,none⟩), .int .i64 t, .func (.func 230) #[] #[.pointer (some ⟨w.heap.size+1,0,none⟩), .pointer (some ⟨w.heap.size+1+1,0,none⟩)], .int .i64 x.1,iB x.2],defers:=[] })
  (fun x a' _ V V' row hs hg hr=>hs)
  ?assign ?body ?done ?stop
 case assign=>
  rintro l' pre x V D hI hzv hD
  dsimp only[KG]
  gi_wp2
  exact hD _ _ (Keep.refl _ _ _) hI (by simp)
 case body=>
  rintro l' pre x a' V ⟨hn,hB⟩ hzv hpre rfl
  have f1:=frozen_of_row V w.heap.size 0 _ _ hB.res
  have g1:V.cell? ⟨w.heap.size,0,none⟩=some (.bool false):=by rw[cell_of_row _ _ _ _ _ _ hB.res];rfl
  have HB:=Lib.hid hB
  clear hB
  gi_wp2
  refine⟨Keep.setCell _ _ _ _ (by omega) (by omega),⟨rfl,by simp⟩,HB.out.gG.setCell (p:=⟨w.heap.size,0,none⟩) (Nat.le_refl _) _,heap_setCell_same _ _ _ _ _ _ HB.out.res⟩
 case done=>
  rintro D V hD ⟨hn,hB⟩ qx
  have f1:=frozen_of_row V w.heap.size 0 _ _ hB.res
  have g1:V.cell? ⟨w.heap.size,0,none⟩=some (.bool false):=by rw[cell_of_row _ _ _ _ _ _ hB.res];rfl
  have HB:=Lib.hid hB
  clear hB
  subst hn
  gi_wp2
  have R4:o9 w (V.setCell ⟨w.heap.size,0,none⟩ (.bool true)) true:=⟨HB.out.gG.setCell (p:=⟨w.heap.size,0,none⟩) (Nat.le_refl _) _,heap_setCell_same _ _ _ _ _ _ HB.out.res⟩
  have KD:(V.setCell ⟨w.heap.size,0,none⟩ (.bool true)).heap[D]? =some (.deferred (some [])):=(Below.heap_setCell _ _ _ _ (by simp only;omega)).trans qx
  generalize V.setCell ⟨w.heap.size,0,none⟩ (.bool true)=V3 at*
  refine⟨by simp, .inl ⟨_,_,rfl,run_takeDeferred KD,?_⟩⟩
  have R5:=o9.hangs (B:=D) (by omega) true () V3 _ R4 (fB D V3 D (.deferred none) (Nat.le_refl _))
  generalize V3.putObj D (.deferred none)=V4 at*
  have q1:V4.cell? ⟨w.heap.size,0,none⟩=some (.bool true):=by rw[cell_of_row _ _ _ _ _ _ R5.res];rfl
  refine⟨.bool true,?_,rfl,R5.gG⟩
  simp[results,Tryz.results202,go_sem,q1]
 case stop=>
  rintro D c pre V hD hpre ⟨⟨rfl,hne⟩,hB⟩ qx
  gi_wp2
  refine⟨by simp, .inl ⟨_,_,rfl,run_takeDeferred qx,?_⟩⟩
  have R5:=o9.hangs (B:=D) (by omega) false () V _ hB (fB D V D (.deferred none) (Nat.le_refl _))
  generalize V.putObj D (.deferred none)=V4 at*
  have q1:V4.cell? ⟨w.heap.size,0,none⟩=some (.bool false):=by rw[cell_of_row _ _ _ _ _ _ R5.res];rfl
  have hEm:E.isEmpty=false:=by
   cases E with
   |nil=>exact absurd (List.prefix_nil.1 hpre) hne
   |cons y ys=>rfl
  refine⟨.bool false,?_,by rw[hEm],R5.gG⟩
  simp[results,Tryz.results202,go_sem,q1]
def pq(n:Nat)(L:List Int)(r:Int):Int:=if mR n L r then 0 else 9
set_option maxHeartbeats 1000000 in
theorem WH{W w:World}{tb sb:Nat}{X:bD}{L:List Int}{R:Nat→Nat}{S:Nat→Bool}(h:Mg W w tb sb X L R S)(r pg:Int)(p x c:Bool)(g:Int):
  Calls Tryz.prog 172 #[.pointer (some ⟨tb,0,none⟩),sQ r pg p x c g] w fun e w'=>e= .returned (.int .i64 (pq X.n L r))∧Below w.heap.size w w':=by
 have B:=Lib.hid (iW w r pg p x c g)
 have hm:=Lib.hid (PK (h.step B.out) r)
 clear h
 unfold pq
 generalize mR X.n L r=b at*
 go_enter Tryz.func172,Tryz.ntmps172
 go_wp2_with fail
 refine hm.out.mono ?_
 rintro e w1 ⟨rfl,hb⟩
 have B1:=Lib.hid (B.out.trans (hb.mono B.out.size))
 clear hb
 cases b with
 |true=>
  go_wp2
  go_ret
  exact⟨rfl,B1.out⟩
 |false=>
  go_wp2
  go_ret
  exact⟨rfl,B1.out⟩
end Go.Proofs.YtammlljefhakmaaGreatDoor
namespace Go.Proofs.YtammlljefhakmaaGreatDoor
open Go.RowKit Go.Maps
set_option maxRecDepth 100000
def aN:List Int→Int
 |[]=>0
 |e::r=>if e=0 then aN r else e
theorem zK:∀es:List Int,(∀j,j<es.length→es.getD j 0=0)→aN es=0
 |[],_=>rfl
 |e::r,h=>by
  have h0:=h 0 (by simp)
  simp only[List.getD_cons_zero]at h0
  simp only[aN,h0,if_true]
  exact zK r fun j hj=>by have:=h (j+1) (by simpa using hj);simpa using this
theorem FH:∀(es:List Int) (i:Nat),i<es.length→(∀j,j<i→es.getD j 0=0)→es.getD i 0≠0→aN es=es.getD i 0
 |[],i,h,_,_=>by simp at h
 |e::r,0,_,_,h=>by simp only[List.getD_cons_zero]at h ⊢;simp[aN,h]
 |e::r,i+1,hi,h0,h=>by
  have h1:=h0 0 (by omega)
  simp only[List.getD_cons_zero]at h1
  simp only[List.getD_cons_succ]at h ⊢
  simp only[aN,h1,if_true]
  exact FH r i (by simpa using hi) (fun j hj=>by have:=h0 (j+1) (by omega);simpa using this) h
abbrev abA:=Nat×Array Value
def WI(q:abA):Value:= .func (.func q.1) q.2 #[]
def ad4(w:World)(es:List Int)(n:Nat)(r pg:Int)(p x c:Bool)(g:Int)(i:Value)(wr:World):Prop:=
 ∃j:Nat,i= .int .i64 (j:Int)∧j≤n∧Below w.heap.size w wr∧wr.heap[w.heap.size]? =some (.cells #[.int .i64 r, .int .i64 pg, .bool p, .bool x, .bool c, .int .i64 g] 257 (0,0))∧∀k,k<j→es.getD k 0=0
set_option maxHeartbeats 2000000 in
theorem uG(qs:List abA)(es:List Int)(b n:Nat)(r pg:Int)(p x c:Bool)(g:Int)(w:World)(hn:n=qs.length)(hl:es.length=n)(h8:n≤8)(hb:w.heap[b]? =some (.cells (qs.map WI).toArray 298 (0,0)))
  (hent:∀i,i<n→∀(args:Array Value) (W:World),(callFunc (qs.getD i default).1 args).run Tryz.prog W= .ok (.enter (qs.getD i default).1 args) W)
  (hq:∀i,i<n→(∀j,j<i→es.getD j 0=0)→∀W,Below w.heap.size w W→Calls Tryz.prog (qs.getD i default).1 ((qs.getD i default).2++ #[sQ r pg p x c g]) W fun e w'=>e= .returned (.int .i64 (es.getD i 0))∧Below W.heap.size W w'):
  Calls Tryz.prog 169 #[sQ r pg p x c g, .slice (some ⟨b,0,none⟩) n n] w fun e w'=>e= .returned (.int .i64 (aN es))∧Below w.heap.size w w':=by
 have B:=Lib.hid (iW w r pg p x c g)
 have R0:Hid ((w.alloc (uV r pg p x c g)).heap[w.heap.size]? =some (.cells #[.int .i64 r, .int .i64 pg, .bool p, .bool x, .bool c, .int .i64 g] 257 (0,0))):=Lib.hid (heap_alloc_new w _)
 have ahg:=Lib.hid hent
 have HQ:=Lib.hid hq
 have HB:=Lib.hid hb
 have HL:=Lib.hid hl
 have HN:=Lib.hid hn
 clear hent hq hb hl hn
 go_enter Tryz.func169,Tryz.ntmps169
 go_wp2_with fail
 go_loopw [10] (fun i wr=>ad4 w es n r pg p x c g i wr) (fun i _=>(n-(intOf i).toNat))
 case atStart=>exact⟨0,rfl,Nat.zero_le _,B.out,R0.out,fun k hk=>absurd hk (Nat.not_lt_zero _)⟩
 case round=>
  obtain⟨j,rfl,hj,hB,hR,hz⟩:=hrel
  have BB:=Lib.hid hB
  have RR:=Lib.hid hR
  have ZZ:=Lib.hid hz
  clear hB hR hz
  by_cases hlt:j<n
  ·obtain⟨⟨f,fa⟩,hf⟩:∃q,q=qs.getD j default:=⟨_,rfl⟩
   have hc:wr.cell? ⟨b,j,none⟩=some (.func (.func f) fa #[]):=by
    refine(BB.out.cell (p:=⟨b,j,none⟩) (lt_of_block HB.out)).trans ?_
    rw[cell_of_row _ _ _ _ _ _ HB.out]
    have hlq:j<qs.length:=by rw[←HN.out];exact hlt
    have e:qs.getD j default=qs[j]:=by simp[List.getD_eq_getElem?_getD,hlq]
    rw[e]at hf
    simp[hlq,←hf,WI]
   have he:=ahg.out j hlt
   have hcall:=HQ.out j hlt ZZ.out wr BB.out
   rw[←hf]at he hcall
   simp only at he hcall
   have HC:=Lib.hid hcall
   obtain⟨e,hee⟩:∃e,e=es.getD j 0:=⟨_,rfl⟩
   have q0:wr.cell? ⟨w.heap.size,0,none⟩=some (.int .i64 r):=by rw[cell_of_row _ _ _ _ _ _ RR.out];rfl
   have q1:wr.cell? ⟨w.heap.size,1,none⟩=some (.int .i64 pg):=by rw[cell_of_row _ _ _ _ _ _ RR.out];rfl
   have q2:wr.cell? ⟨w.heap.size,2,none⟩=some (.bool p):=by rw[cell_of_row _ _ _ _ _ _ RR.out];rfl
   have q3:wr.cell? ⟨w.heap.size,3,none⟩=some (.bool x):=by rw[cell_of_row _ _ _ _ _ _ RR.out];rfl
   have q4:wr.cell? ⟨w.heap.size,4,none⟩=some (.bool c):=by rw[cell_of_row _ _ _ _ _ _ RR.out];rfl
   have q5:wr.cell? ⟨w.heap.size,5,none⟩=some (.int .i64 g):=by rw[cell_of_row _ _ _ _ _ _ RR.out];rfl
   have EE:=Lib.hid hee
   clear hcall hf hee
   go_wp2_with fail
   refine HC.out.mono ?_
   rw[←EE.out]
   rintro e' w1 ⟨rfl,hb⟩
   have B1:=Lib.hid (BB.out.trans (hb.mono BB.out.size))
   have R1:=Lib.hid (below_block hb RR.out)
   clear hb q0 q1 q2 q3 q4 q5 hc he
   by_cases h0:e=0
   ·subst h0
    go_wp2
    go_roundw
    case rel=>exact⟨j+1,by go_num,by omega,B1.out,R1.out,fun k hk=>by
     rcases Nat.lt_or_ge k j with h|h
     ·exact ZZ.out k h
     ·rw[show k=j by omega,←EE.out]⟩
    case measure=>simp[intOf];omega
   ·have hne:(e !=0)=true:=by simpa using h0
    go_wp2
    go_ret
    exact⟨by rw[FH es j (by rw[HL.out];exact hlt) ZZ.out (by rw[←EE.out];exact h0),←EE.out];rfl,B1.out⟩
  ·obtain rfl:j=n:=by omega
   go_wp2
   go_ret
   exact⟨by rw[zK es (fun k hk=>ZZ.out k (by rw[←HL.out];exact hk))];rfl,BB.out⟩
theorem ng{pg:Int}(h:kL pg=0):0≤pg∧pg<1024:=by
 unfold kL at h
 split at h
 ·assumption
 ·exact absurd h (by decide)
theorem WJ{W w:World}{tb sb:Nat}{X:bD}{L:List Int}{R:Nat→Nat}{S:Nat→Bool}(h:Mg W w tb sb X L R S)(b:Nat)(r pg:Int)(p x c:Bool)(g:Int)(hb:w.heap[b]? =some (.cells #[.func (.func 170) #[.pointer (some ⟨tb,0,none⟩)] #[]] 298 (0,0))):
  Calls Tryz.prog 169 #[sQ r pg p x c g, .slice (some ⟨b,0,none⟩) 1 1] w fun e w'=>e= .returned (.int .i64 (aN [0]))∧Below w.heap.size w w':=by
 refine uG [(170,#[.pointer (some ⟨tb,0,none⟩)])] [0] b 1 r pg p x c g w rfl rfl (by decide) hb ?_ ?_
 ·intro i hi
  rcases(show i=0 by omega)with rfl
  ·exact enters Tryz.func170 rfl rfl
 ·intro i hi hz V hW
  rcases(show i=0 by omega)with rfl
  ·exact uD (h.step hW) r pg p x c g
theorem Sy{W w:World}{tb sb:Nat}{X:bD}{L:List Int}{R:Nat→Nat}{S:Nat→Bool}(h:Mg W w tb sb X L R S)(b:Nat)(r pg:Int)(p x c:Bool)(g:Int)(hr:I64 r)(hb:w.heap[b]? =some (.cells #[.func (.func 170) #[.pointer (some ⟨tb,0,none⟩)] #[], .func (.func 171) #[.pointer (some ⟨tb,0,none⟩)] #[], .func (.func 172) #[.pointer (some ⟨tb,0,none⟩)] #[]] 298 (0,0))):
  Calls Tryz.prog 169 #[sQ r pg p x c g, .slice (some ⟨b,0,none⟩) 3 3] w fun e w'=>e= .returned (.int .i64 (aN [0,bY S r,pq X.n L r]))∧Below w.heap.size w w':=by
 refine uG [(170,#[.pointer (some ⟨tb,0,none⟩)]),(171,#[.pointer (some ⟨tb,0,none⟩)]),(172,#[.pointer (some ⟨tb,0,none⟩)])] [0,bY S r,pq X.n L r] b 3 r pg p x c g w rfl rfl (by decide) hb ?_ ?_
 ·intro i hi
  rcases(show i=0∨i=1∨i=2 by omega)with rfl|rfl|rfl
  ·exact enters Tryz.func170 rfl rfl
  ·exact enters Tryz.func171 rfl rfl
  ·exact enters Tryz.func172 rfl rfl
 ·intro i hi hz V hW
  rcases(show i=0∨i=1∨i=2 by omega)with rfl|rfl|rfl
  ·exact uD (h.step hW) r pg p x c g
  ·exact nS (h.step hW) r pg p x c g hr
  ·simp only[List.getD_cons_succ,List.getD_cons_zero];exact WH (h.step hW) r pg p x c g
theorem aa4{W w:World}{tb sb:Nat}{X:bD}{L:List Int}{R:Nat→Nat}{S:Nat→Bool}(h:Mg W w tb sb X L R S)(b:Nat)(r pg:Int)(p x c:Bool)(g:Int)(hr:I64 r)(hp:I64 pg)(hb:w.heap[b]? =some (.cells #[.func (.func 170) #[.pointer (some ⟨tb,0,none⟩)] #[], .func (.func 191) #[] #[], .func (.func 211) #[.pointer (some ⟨tb,0,none⟩)] #[], .func (.func 171) #[.pointer (some ⟨tb,0,none⟩)] #[], .func (.func 212) #[.pointer (some ⟨tb,0,none⟩)] #[]] 298 (0,0))):
  Calls Tryz.prog 169 #[sQ r pg p x c g, .slice (some ⟨b,0,none⟩) 5 5] w fun e w'=>e= .returned (.int .i64 (aN [0,kL pg,o7 X.n p x c g,bY S r,Cc X.n L r pg]))∧Below w.heap.size w w':=by
 refine uG [(170,#[.pointer (some ⟨tb,0,none⟩)]),(191,#[]),(211,#[.pointer (some ⟨tb,0,none⟩)]),(171,#[.pointer (some ⟨tb,0,none⟩)]),(212,#[.pointer (some ⟨tb,0,none⟩)])] [0,kL pg,o7 X.n p x c g,bY S r,Cc X.n L r pg] b 5 r pg p x c g w rfl rfl (by decide) hb ?_ ?_
 ·intro i hi
  rcases(show i=0∨i=1∨i=2∨i=3∨i=4 by omega)with rfl|rfl|rfl|rfl|rfl
  ·exact enters Tryz.func170 rfl rfl
  ·exact enters Tryz.func191 rfl rfl
  ·exact enters Tryz.func211 rfl rfl
  ·exact enters Tryz.func171 rfl rfl
  ·exact enters Tryz.func212 rfl rfl
 ·intro i hi hz V hW
  rcases(show i=0∨i=1∨i=2∨i=3∨i=4 by omega)with rfl|rfl|rfl|rfl|rfl
  ·exact uD (h.step hW) r pg p x c g
  ·exact qI V r pg p x c g hp
  ·exact KC (h.step hW) r pg p x c g
  ·exact nS (h.step hW) r pg p x c g hr
  ·exact KF (h.step hW) r pg p x c g (ng (by have:=hz 1 (by decide);exact this)).1 (ng (by have:=hz 1 (by decide);exact this)).2
theorem FJ{W w:World}{tb sb:Nat}{X:bD}{L:List Int}{R:Nat→Nat}{S:Nat→Bool}(h:Mg W w tb sb X L R S)(b:Nat)(r pg:Int)(p x c:Bool)(g:Int)(hr:I64 r)(hp:I64 pg)(hb:w.heap[b]? =some (.cells #[.func (.func 170) #[.pointer (some ⟨tb,0,none⟩)] #[], .func (.func 191) #[] #[], .func (.func 171) #[.pointer (some ⟨tb,0,none⟩)] #[], .func (.func 192) #[.pointer (some ⟨tb,0,none⟩)] #[]] 298 (0,0))):
  Calls Tryz.prog 169 #[sQ r pg p x c g, .slice (some ⟨b,0,none⟩) 4 4] w fun e w'=>e= .returned (.int .i64 (aN [0,kL pg,bY S r,o8 X.n L r pg]))∧Below w.heap.size w w':=by
 refine uG [(170,#[.pointer (some ⟨tb,0,none⟩)]),(191,#[]),(171,#[.pointer (some ⟨tb,0,none⟩)]),(192,#[.pointer (some ⟨tb,0,none⟩)])] [0,kL pg,bY S r,o8 X.n L r pg] b 4 r pg p x c g w rfl rfl (by decide) hb ?_ ?_
 ·intro i hi
  rcases(show i=0∨i=1∨i=2∨i=3 by omega)with rfl|rfl|rfl|rfl
  ·exact enters Tryz.func170 rfl rfl
  ·exact enters Tryz.func191 rfl rfl
  ·exact enters Tryz.func171 rfl rfl
  ·exact enters Tryz.func192 rfl rfl
 ·intro i hi hz V hW
  rcases(show i=0∨i=1∨i=2∨i=3 by omega)with rfl|rfl|rfl|rfl
  ·exact uD (h.step hW) r pg p x c g
  ·exact qI V r pg p x c g hp
  ·exact nS (h.step hW) r pg p x c g hr
  ·exact yh (h.step hW) r pg p x c g (ng (by have:=hz 1 (by decide);exact this)).1 (ng (by have:=hz 1 (by decide);exact this)).2
theorem aa5{W w:World}{tb sb:Nat}{X:bD}{L:List Int}{R:Nat→Nat}{S:Nat→Bool}(h:Mg W w tb sb X L R S)(b:Nat)(r pg:Int)(p x c:Bool)(g:Int)(hr:I64 r)(hp:I64 pg)(hb:w.heap[b]? =some (.cells #[.func (.func 170) #[.pointer (some ⟨tb,0,none⟩)] #[], .func (.func 191) #[] #[], .func (.func 211) #[.pointer (some ⟨tb,0,none⟩)] #[], .func (.func 171) #[.pointer (some ⟨tb,0,none⟩)] #[], .func (.func 192) #[.pointer (some ⟨tb,0,none⟩)] #[]] 298 (0,0))):
  Calls Tryz.prog 169 #[sQ r pg p x c g, .slice (some ⟨b,0,none⟩) 5 5] w fun e w'=>e= .returned (.int .i64 (aN [0,kL pg,o7 X.n p x c g,bY S r,o8 X.n L r pg]))∧Below w.heap.size w w':=by
 refine uG [(170,#[.pointer (some ⟨tb,0,none⟩)]),(191,#[]),(211,#[.pointer (some ⟨tb,0,none⟩)]),(171,#[.pointer (some ⟨tb,0,none⟩)]),(192,#[.pointer (some ⟨tb,0,none⟩)])] [0,kL pg,o7 X.n p x c g,bY S r,o8 X.n L r pg] b 5 r pg p x c g w rfl rfl (by decide) hb ?_ ?_
 ·intro i hi
  rcases(show i=0∨i=1∨i=2∨i=3∨i=4 by omega)with rfl|rfl|rfl|rfl|rfl
  ·exact enters Tryz.func170 rfl rfl
  ·exact enters Tryz.func191 rfl rfl
  ·exact enters Tryz.func211 rfl rfl
  ·exact enters Tryz.func171 rfl rfl
  ·exact enters Tryz.func192 rfl rfl
 ·intro i hi hz V hW
  rcases(show i=0∨i=1∨i=2∨i=3∨i=4 by omega)with rfl|rfl|rfl|rfl|rfl
  ·exact uD (h.step hW) r pg p x c g
  ·exact qI V r pg p x c g hp
  ·exact KC (h.step hW) r pg p x c g
  ·exact nS (h.step hW) r pg p x c g hr
  ·exact yh (h.step hW) r pg p x c g (ng (by have:=hz 1 (by decide);exact this)).1 (ng (by have:=hz 1 (by decide);exact this)).2
theorem PS{W w:World}{tb sb:Nat}{X:bD}{L:List Int}{R:Nat→Nat}{S:Nat→Bool}(h:Mg W w tb sb X L R S)(b:Nat)(r pg:Int)(p x c:Bool)(g:Int)(hr:I64 r)(hb:w.heap[b]? =some (.cells #[.func (.func 170) #[.pointer (some ⟨tb,0,none⟩)] #[], .func (.func 171) #[.pointer (some ⟨tb,0,none⟩)] #[]] 298 (0,0))):
  Calls Tryz.prog 169 #[sQ r pg p x c g, .slice (some ⟨b,0,none⟩) 2 2] w fun e w'=>e= .returned (.int .i64 (aN [0,bY S r]))∧Below w.heap.size w w':=by
 refine uG [(170,#[.pointer (some ⟨tb,0,none⟩)]),(171,#[.pointer (some ⟨tb,0,none⟩)])] [0,bY S r] b 2 r pg p x c g w rfl rfl (by decide) hb ?_ ?_
 ·intro i hi
  rcases(show i=0∨i=1 by omega)with rfl|rfl
  ·exact enters Tryz.func170 rfl rfl
  ·exact enters Tryz.func171 rfl rfl
 ·intro i hi hz V hW
  rcases(show i=0∨i=1 by omega)with rfl|rfl
  ·exact uD (h.step hW) r pg p x c g
  ·exact nS (h.step hW) r pg p x c g hr
end Go.Proofs.YtammlljefhakmaaGreatDoor
namespace Go.Proofs.YtammlljefhakmaaGreatDoor
open Go.RowKit Go.Maps
set_option maxRecDepth 100000
theorem aa6{w:World}{k:Nat}{r pg:Int}{p x c:Bool}{g:Int}{t:TypeId}(h:w.heap[k]? =some (.cells #[.int .i64 r, .int .i64 pg, .bool p, .bool x, .bool c, .int .i64 g] t (0,0))):
  w.cell? ⟨k,0,none⟩=some (.int .i64 r)∧w.cell? ⟨k,1,none⟩=some (.int .i64 pg)∧w.cell? ⟨k,2,none⟩=some (.bool p)∧w.cell? ⟨k,3,none⟩=some (.bool x)∧w.cell? ⟨k,4,none⟩=some (.bool c)∧w.cell? ⟨k,5,none⟩=some (.int .i64 g):=by
 refine⟨?_,?_,?_,?_,?_,?_⟩<;>(rw[cell_of_row _ _ _ _ _ _ h];rfl)
structure MI(w V:World)(e:fQ)(r pg:Int)(p x c:Bool)(g:Int):Prop where
 below:Below w.heap.size w V
 res:V.heap[w.heap.size]? =some (eU e)
 req:V.heap[w.heap.size+1]? =some (.cells #[.int .i64 r, .int .i64 pg, .bool p, .bool x, .bool c, .int .i64 g] 257 (0,0))
theorem MI.start(w:World)(e:fQ)(r pg:Int)(p x c:Bool)(g:Int):MI w ((w.alloc (eU e)).alloc (uV r pg p x c g)) e r pg p x c g:=
 ⟨ak w _ _,heap_alloc2_old _ _ _,heap_alloc2_new _ _ _⟩
theorem MI.step{w V V':World}{e:fQ}{r pg:Int}{p x c:Bool}{g:Int}(h:MI w V e r pg p x c g)(hb:Below V.heap.size V V'):MI w V' e r pg p x c g:=
 ⟨h.below.trans (hb.mono h.below.size),below_block hb h.res,below_block hb h.req⟩
theorem MI.put{w V:World}{e:fQ}{r pg:Int}{p x c:Bool}{g:Int}(h:MI w V e r pg p x c g)(e':fQ):MI w (jr V w.heap.size e') e' r pg p x c g:=
 ⟨dM h.below (Nat.le_refl _),gL h.res,(jU (by omega)).trans h.req⟩
def qL(n:Nat)(L:List Int)(S:Nat→Bool)(r pg:Int):Int:=aN [0,kL pg,bY S r,o8 n L r pg]
theorem zL{n:Nat}{L:List Int}{S:Nat→Bool}{r pg:Int}(h:qL n L S r pg=0):(0≤pg∧pg<1024)∧isSp S r=true∧(dB n L r pg).2.1=true:=by
 unfold qL aN at h
 simp only[if_true]at h
 by_cases h1:kL pg=0
 ·rw [aN,if_pos h1]at h
  by_cases h2:bY S r=0
  ·rw[aN,if_pos h2]at h
   by_cases h3:o8 n L r pg=0
   ·refine⟨ng h1,?_,?_⟩
    ·unfold bY at h2;split at h2
     ·assumption
     ·exact absurd h2 (by decide)
    ·unfold o8 at h3;split at h3
     ·assumption
     ·exact absurd h3 (by decide)
   ·rw[aN,if_neg h3]at h;exact absurd h h3
  ·rw[aN,if_neg h2]at h;exact absurd h h2
 ·rw[aN,if_neg h1]at h;exact absurd h h1
def IB(n:Nat)(L:List Int)(S:Nat→Bool)(r pg:Int):fQ×Bool:=if qL n L S r pg=0 then((dB n L r pg).2,true)else(z0,false)
set_option maxHeartbeats 2000000 in
theorem WL{W w:World}{tb sb:Nat}{X:bD}{L:List Int}{R:Nat→Nat}{S:Nat→Bool}(h:Mg W w tb sb X L R S)(r pg:Int)(hr:I64 r)(hp:I64 pg):
  Calls Tryz.prog 136 #[.pointer (some ⟨tb,0,none⟩), .int .i64 r, .int .i64 pg] w fun e w'=>e= .returned (.tuple #[iB (IB X.n L S r pg).1, .bool (IB X.n L S r pg).2])∧Below w.heap.size w w':=by
 obtain⟨wa,oD⟩:∃wa,wa=(w.alloc (eU z0)).alloc (uV r pg false false false 0):=⟨_,rfl⟩
 have Qa:MI w wa z0 r pg false false false 0:=by rw[oD];exact MI.start _ _ _ _ _ _ _ _
 have hza:wa.heap.size=w.heap.size+1+1:=by rw[oD];simp
 obtain⟨w1,hw1⟩:∃w1,w1=wa.alloc (.cells #[.func (.func 170) #[.pointer (some ⟨tb,0,none⟩)] #[], .func (.func 191) #[] #[], .func (.func 171) #[.pointer (some ⟨tb,0,none⟩)] #[], .func (.func 192) #[.pointer (some ⟨tb,0,none⟩)] #[]] 298):=⟨_,rfl⟩
 have Q1:=Lib.hid (Qa.step (V':=w1) (by rw[hw1];exact(Below.refl _ _).alloc (Nat.le_refl _) _))
 have hs1:w1.heap[w.heap.size+1+1]? =some (.cells #[.func (.func 170) #[.pointer (some ⟨tb,0,none⟩)] #[], .func (.func 191) #[] #[], .func (.func 171) #[.pointer (some ⟨tb,0,none⟩)] #[], .func (.func 192) #[.pointer (some ⟨tb,0,none⟩)] #[]] 298 (0,0)):=by rw[hw1,←hza];exact heap_alloc_new wa _
 have M1:=Lib.hid (h.step Q1.out.below)
 have ASK:=Lib.hid (FJ M1.out (w.heap.size+1+1) r pg false false false 0 hr hp hs1)
 have pE:∀(fn:Fn) (first cap:Array Value) (w:World),(Instr.makeFunc fn first cap).run Tryz.prog w= .ok (.func fn first cap) w:=fun _ _ _ _=>rfl
 rw[oD]at hw1
 clear hs1 h Qa hza oD
 clear wa
 obtain⟨k,hk⟩:∃k,k=qL X.n L S r pg:=⟨_,rfl⟩
 have HK:=Lib.hid hk
 clear hk
 go_enter Tryz.func136,Tryz.ntmps136
 go_wp2_with fail
 rw[←show w1=((w.alloc (.cells #[.bool false, .bool false, .bool false, .int .i64 0] 217)).alloc (.cells #[.int .i64 r, .int .i64 pg, .bool false, .bool false, .bool false, .int .i64 0] 257)).alloc (.cells #[.func (.func 170) #[.pointer (some ⟨tb,0,none⟩)] #[], .func (.func 191) #[] #[], .func (.func 171) #[.pointer (some ⟨tb,0,none⟩)] #[], .func (.func 192) #[.pointer (some ⟨tb,0,none⟩)] #[]] 298)from hw1]
 clear hw1
 refine ASK.out.mono ?_
 rw[show aN [0,kL pg,bY S r,o8 X.n L r pg]=k from HK.out.symm]
 rintro e w2 ⟨rfl,hb⟩
 have Q2:=Lib.hid (Q1.out.step hb)
 have M2:=Lib.hid (M1.out.step hb)
 clear hb
 obtain⟨q0,q1,q2,q3,q4,q5⟩:=aa6 Q2.out.req
 by_cases h0:k=0
 ·subst h0
  obtain⟨⟨n0,n1⟩,hsp,hm⟩:=zL HK.out.symm
  obtain⟨⟨⟨tp,tx,tc,tg⟩,op,ox,oc,og⟩,he⟩:∃t,t=dB X.n L r pg:=⟨_,rfl⟩
  have HE:=Lib.hid he
  have HA:Hid (IB X.n L S r pg=((op,ox,oc,og),true)):=Lib.hid (by unfold IB;rw[←HK.out,if_pos rfl,←he])
  clear he hsp hm
  go_wp2_with fail
  refine(uE M2.out r pg false false false 0 n0 n1 HE.out.symm).mono ?_
  rintro e w3 ⟨rfl,hb⟩
  have Q3:=Lib.hid (Q2.out.step hb)
  clear hb q0 q1 q2 q3 q4 q5
  have A4:=Lib.hid (ak w3 (.cells #[.bool tp, .bool tx, .bool tc, .int .i64 tg] 217) (.cells #[.bool op, .bool ox, .bool oc, .int .i64 og] 217))
  have Q4:=Lib.hid (Q3.out.step A4.out)
  have f0:=frozen_of_row _ w.heap.size 0 _ _ Q4.out.res
  have f1:=frozen_of_row _ w.heap.size 1 _ _ Q4.out.res
  have f2:=frozen_of_row _ w.heap.size 2 _ _ Q4.out.res
  have f3:=frozen_of_row _ w.heap.size 3 _ _ Q4.out.res
  obtain⟨d0,d1,d2,d3⟩:=aU Q4.out.res
  go_wp2
  have Q5:=Q4.out.put (op,ox,oc,og)
  obtain⟨e0,e1,e2,e3⟩:=aU Q5.res
  simp only[jr]at e0 e1 e2 e3
  refine bodyPost_ret (v:= .tuple #[iB (op,ox,oc,og), .bool true]) ?_ rfl ⟨by rw[HA.out],Q5.below⟩
  simp[results,Tryz.results136,go_sem,e0,e1,e2,e3,iB]
 ·have hne:(k !=0)=true:=by simpa using h0
  have HA:Hid (IB X.n L S r pg=(z0,false)):=Lib.hid (by unfold IB;rw[←HK.out,if_neg h0])
  have f0:=frozen_of_row _ w.heap.size 0 _ _ Q2.out.res
  have f1:=frozen_of_row _ w.heap.size 1 _ _ Q2.out.res
  have f2:=frozen_of_row _ w.heap.size 2 _ _ Q2.out.res
  have f3:=frozen_of_row _ w.heap.size 3 _ _ Q2.out.res
  obtain⟨d0,d1,d2,d3⟩:=aU Q2.out.res
  clear q0 q1 q2 q3 q4 q5
  go_wp2
  have Q5:=Q2.out.put z0
  obtain⟨e0,e1,e2,e3⟩:=aU Q5.res
  simp only[jr,z0]at e0 e1 e2 e3
  refine bodyPost_ret (v:= .tuple #[iB z0, .bool false]) ?_ rfl ⟨by rw[HA.out],Q5.below⟩
  simp[results,Tryz.results136,go_sem,e0,e1,e2,e3,iB,z0]
end Go.Proofs.YtammlljefhakmaaGreatDoor
