/- Helps of the proof. No condition. -/
import Derived.Test.YtammlljefhakmaaGreatDoorHN
namespace Go.Proofs.YtammlljefhakmaaGreatDoor
open Go.RowKit Go.Maps
set_option maxRecDepth 100000
section
def PG(G:Int→Option Pc):Int→Nat→Option Bool:=fun i p=>match G i with
 |none=>none
 |some s=>fF s.ar (p:Int)
theorem lZ{G:Int→Option Pc}{i:Int}{s:Pc}(h:G i=some s)(p:Nat):PG G i p=fF s.ar (p:Int):=by unfold PG;rw[h]
def ig:Int→Nat:=fun _=>0
def single(i:Int)(m:Nat):Int→Nat:=fun j=>if j=i then m else 0
theorem jX(i:Int):single i 0=ig:=by funext j;unfold single ig;split<;>rfl
theorem dQ(i:Int)(m:Nat):single i m i=m:=by simp[single]
theorem uO(i:Int)(m:Nat):yG ig i m=single i m:=by funext j;unfold yG ig single;split<;>omega
theorem jY(i:Int)(m k:Nat):Af (single i m) i k=single i (m-k):=by funext j;unfold Af single;split<;>rfl
theorem Ma(i:Int)(m k:Nat):yG (single i m) i k=single i (m+k):=by funext j;unfold yG single;split<;>rfl
structure dR(W0 w:World)(I:lK)(q c:Nat)(D:Int→Option Sp)(Q:Nat→Nat)(V:Nat→Nat→Int)(Lb:List Nd)(G:Int→Option Pc)(ow:Int→Nat)(P:Int→Nat→Option Bool):Prop where
 bl:BL W0 w I c Q V Lb G D
 j:J I.n q c D Q Lb ow P
structure Seen(D:Int→Option Sp)(V:Nat→Nat→Int)(D':Int→Option Sp)(V':Nat→Nat→Int)(i:Int)(T:Nat→Bool):Prop where
 pr:∀j r,r<1024→qz D' j r=(qz D j r||(decide (j=i)&&T r))
 rd:∀j r y,r<1024→y<32→ou D' V' j r y=ou D V j r y
 dom:∀j,(D' j).isSome=(D j).isSome
theorem Seen.refl(D:Int→Option Sp)(V:Nat→Nat→Int)(i:Int):Seen D V D V i (fun _=>false):=⟨fun j r _=>by simp,fun _ _ _ _ _=>rfl,fun _=>rfl⟩
theorem qV{D:Int→Option Sp}{i:Int}{F:Sp}(h:D i=some F)(K:Sp)(j:Int):(aV D i (some K) j).isSome=(D j).isSome:=by
 by_cases e:j=i
 ·subst e;rw[aR,h];rfl
 ·rw[aJ _ _ _ e]
theorem Seen.congr{D D':Int→Option Sp}{V V':Nat→Nat→Int}{i:Int}{T U:Nat→Bool}(h:Seen D V D' V' i T)(e:∀r,r<1024→qz D i r=true∨T r=U r):Seen D V D' V' i U:=
 ⟨fun j r hr=>by
  rw[h.pr j r hr]
  by_cases ej:j=i
  ·subst ej
   rcases e r hr with e1|e1
   ·rw[e1];simp
   ·rw[e1]
  ·simp[ej],h.rd,h.dom⟩
theorem Seen.same{D D' D2:Int→Option Sp}{V V' V2:Nat→Nat→Int}{i:Int}{T:Nat→Bool}(h:Seen D V D' V' i T)(k:∀j r,r<1024→qz D2 j r=qz D' j r∧∀y,y<32→ou D2 V2 j r y=ou D' V' j r y)(kd:∀j,(D2 j).isSome=(D' j).isSome):Seen D V D2 V2 i T:=
 ⟨fun j r hr=>(k j r hr).1.trans (h.pr j r hr),fun j r y hr hy=>((k j r hr).2 y hy).trans (h.rd j r y hr hy),fun j=>(kd j).trans (h.dom j)⟩
theorem Seen.some{D D':Int→Option Sp}{V V':Nat→Nat→Int}{i:Int}{T:Nat→Bool}(h:Seen D V D' V' i T){j:Int}{F:Sp}(hj:D j=some F):∃F',D' j=some F':=by
 have:=h.dom j
 rw[hj]at this
 exact Option.isSome_iff_exists.1 this
theorem Dl{b d:Nat→Bool}{p:Nat}(hp:p<1024)(h:∀r,r<1024→b r=d r):newP b p=newP d p:=by
 unfold newP
 have:mM b (p/32)=mM d (p/32):=by
  rw[Bool.eq_iff_iff,mq,mq]
  constructor
  ·rintro⟨j,hj,hb⟩;exact⟨j,hj,by rw[←h _ (by omega)];exact hb⟩
  ·rintro⟨j,hj,hb⟩;exact⟨j,hj,by rw[h _ (by omega)];exact hb⟩
 rw[this]
theorem dX{L:List Nat}{k:Nat}(h:k<L.length):L.take (k+1)=L.take k++[L.getD k 0]:=by
 rw[List.take_succ_eq_append_getElem h,List.getD_eq_getElem?_getD,List.getElem?_eq_getElem h];rfl
theorem Dm{L:List Nat}{k:Nat}(h:k<L.length):L.drop k=L.getD k 0::L.drop (k+1):=by
 rw[List.drop_eq_getElem_cons h,List.getD_eq_getElem?_getD,List.getElem?_eq_getElem h];rfl
theorem Gs{b:Nat→Bool}{L:List Nat}{k:Nat}(h:k<L.length):Gn (jB b (L.take k)) (L.getD k 0)=jB b (L.take (k+1)):=by
 funext r
 unfold Gn jB
 rw[dX h]
 simp[Bool.or_assoc]
theorem Mc(b:Nat→Bool):jB b []=b:=by funext r;simp[jB]
def qW(A:List Ar)(wr:Bool):List Nat→Int
 |[]=>0
 |p::r=>if Ag (fF A (p:Int)) wr=0 then qW A wr r else Ag (fF A (p:Int)) wr
theorem xq{A:List Ar}{wr:Bool}:∀{L:List Nat},qW A wr L=0↔∀p∈L,Ag (fF A (p:Int)) wr=0
 |[]=>by simp[qW]
 |p::r=>by
  rw[qW]
  by_cases h:Ag (fF A (p:Int)) wr=0
  ·rw[if_pos h,xq];simp[h]
  ·rw[if_neg h];simp[h]
theorem Dn{A:List Ar}{wr:Bool}:∀{L:List Nat} {k:Nat},k<L.length→(∀p∈L.take k,Ag (fF A (p:Int)) wr=0)→Ag (fF A ((L.getD k 0:Nat):Int)) wr≠0→qW A wr L=Ag (fF A ((L.getD k 0:Nat):Int)) wr
 |p::r,0,_,_,h=>by
  rw[qW]
  simp only[List.getD_cons_zero]at h ⊢
  rw[if_neg h]
 |p::r,k+1,hk,h0,h=>by
  rw[qW,if_pos (h0 p (by simp))]
  simp only[List.getD_cons_succ]at h ⊢
  exact Dn (by simpa using hk) (fun x hx=>h0 x (by simp[hx])) h
theorem yP{o:Option Bool}{wr:Bool}(h:Ag o wr=0):∃x,o=some x∧(wr=true→x=true):=by
 unfold Ag at h
 cases o with
 |none=>cases h
 |some x=>
  refine⟨x,rfl,fun hw=>?_⟩
  cases x with
  |true=>rfl
  |false=>simp[hw]at h
section
variable {W0 w:World} {I:lK} {q c:Nat} {Q:Nat→Nat} {V:Nat→Nat→Int} {Lb:List Nd} {G:Int→Option Pc} {D:Int→Option Sp} {ow:Int→Nat} {P:Int→Nat→Option Bool}
theorem dR.step{w':World}(h:dR W0 w I q c D Q V Lb G ow P)(hb:Below w.heap.size w w'):dR W0 w' I q c D Q V Lb G ow P:=⟨h.bl.step hb,h.j⟩
theorem dR.aaG(h:dR W0 w I q c D Q V Lb G ow P){i:Int}{s:Pc}{F:Sp}(hG:G i=some s)(hD:D i=some F){b2 b3:Nat}{wr:Bool}(h2:w.heap[b2]? =some (.cells #[.pointer (some ⟨s.blk,0,none⟩)] 127 (0,0)))(h3:w.heap[b3]? =some (.cells #[.bool wr] 4 (0,0))){v:Value}{L:List Nat}(hv:jw w v L)(hL:L.length≤2000)(hL2:∀p∈L,p≤100000):
  Calls Tryz.prog 95 #[.pointer (some ⟨I.ss,0,none⟩), .pointer (some ⟨s.blk,0,none⟩),v, .func (.func 180) #[] #[.pointer (some ⟨b2,0,none⟩), .pointer (some ⟨b3,0,none⟩)]] w fun e w'=>e= .returned (.int .i64 (qW s.ar wr L))∧Below w.heap.size w w':=by
 refine(om I.ss s.blk I.tb 180 (s.root:Int) _ LP v L
  (fun k U=>Below w.heap.size w U∧∀p∈L.take k,Ag (fF s.ar (p:Int)) wr=0)
  (fun er U=>Below w.heap.size w U∧er=qW s.ar wr L) w
  (fun k U ⟨a,_⟩=>⟨(h.bl.step a).cells.2.2.2.2.1,((h.bl.step a).iK hG).2.1,hv.keep (ay.below a)⟩)
  (fun k U U' ⟨a,b⟩ hb=>⟨a.trans (hb.mono a.size),b⟩)
  (fun k U hk ⟨a,b⟩=>?_) ⟨Below.refl _ _,by simp⟩ (by omega)).mono ?_
 ·have hmem:L.getD k 0∈L:=by
   rw[List.getD_eq_getElem?_getD,List.getElem?_eq_getElem hk];exact List.getElem_mem hk
  obtain⟨x1,x2,g,he⟩:=xk F (L.getD k 0)
  refine⟨_,x1,x2,g,_,fun V' hb=>(h.bl.step (a.trans (hb.mono a.size))).queryP hG hD _ (hL2 _ hmem) he,fun V' hb=>?_⟩
  have hbl:=a.trans (hb.mono a.size)
  refine((h.bl.step hbl).ahF hG (below_block hbl h2) (below_block hbl h3) _ _ x1 x2 g).mono ?_
  rintro e w' ⟨rfl,hb'⟩
  refine⟨_,rfl,?_⟩
  have adw:=hbl.trans (hb'.mono hbl.size)
  by_cases e0:Ag (fF s.ar ((L.getD k 0:Nat):Int)) wr=0
  ·refine Or.inl ⟨e0,adw,?_⟩
   rw[dX hk]
   intro p hp
   rcases List.mem_append.1 hp with hp|hp
   ·exact b p hp
   ·rw[List.mem_singleton.1 hp];exact e0
  ·exact Or.inr ⟨e0,adw,(Dn hk b e0).symm⟩
 ·rintro e w' ⟨er,rfl,⟨rfl,a,b⟩|⟨_,a,rfl⟩⟩
  ·rw[List.take_length]at b
   rw[xq.2 b];exact⟨rfl,a⟩
  ·exact⟨rfl,a⟩
def Jb(W0 w w':World)(I:lK)(q:Nat)(D:Int→Option Sp)(V:Nat→Nat→Int)(Lb:List Nd)(G:Int→Option Pc)(ow:Int→Nat)(i:Int)(T:Nat→Bool):Prop:=∃c' D' Q' V',dR W0 w' I q c' D' Q' V' Lb G ow (PG G)∧ay w w'∧Seen D V D' V' i T
theorem dR.Ot{i:Int}{s:Pc}{F:Sp}{w1:World}(har:qQ s.ar)(hG:G i=some s)(hD:D i=some F){b2 b3:Nat}(hcap:Cap w1 b2 b3 I.ss s.blk){v:Value}{L:List Nat}(hv:jw w1 v L)(hL:L.length≤2000){wr:Bool}(hmay:qW s.ar wr L=0){Lb1:List Nd}(h1:dR W0 w1 I q c D Q V Lb1 G (single i (bW (lM F) L)) (PG G)):
  Calls Tryz.prog 95 #[.pointer (some ⟨I.ss,0,none⟩), .pointer (some ⟨s.blk,0,none⟩),v, .func (.func 184) #[] #[.pointer (some ⟨b2,0,none⟩), .pointer (some ⟨b3,0,none⟩)]] w1 fun e w'=>e= .returned (.int .i64 0)∧Jb W0 w1 w' I q D V Lb1 G ig i (fun r=>decide (r∈L)):=by
 have hat:∀p∈L,p<1024∧∃x,fF s.ar (p:Int)=some x:=fun p hp=>by
  obtain⟨x,hx,_⟩:=yP (xq.1 hmay p hp)
  refine⟨?_,x,hx⟩
  by_cases hp2:p<1024
  ·exact hp2
  ·rw[yH har.up (by omega)]at hx;cases hx
 refine(om I.ss s.blk I.tb 184 (s.root:Int) _ Es v L
  (fun k U=>Jb W0 w1 U I q D V Lb1 G (single i (bW (jB (lM F) (L.take k)) (L.drop k))) i (fun r=>decide (r∈L.take k)))
  (fun _ _=>False) w1
  (fun k U ⟨_,_,_,_,a,b,_⟩=>⟨a.bl.cells.2.2.2.2.1,(a.bl.iK hG).2.1,hv.keep b⟩)
  (fun k U U' ⟨c',D',Q',V',a,b,d⟩ hb=>⟨c',D',Q',V',a.step hb,b.trans (ay.below hb),d⟩)
  (fun k U hk ⟨c',D',Q',V',a,b,d⟩=>?_) ⟨c,D,Q,V,by simpa[Mc]using h1,ay.refl _,by simpa using Seen.refl D V i⟩ (by omega)).mono ?_
 ·have hmem:L.getD k 0∈L:=by
   rw[List.getD_eq_getElem?_getD,List.getElem?_eq_getElem hk];exact List.getElem_mem hk
  obtain⟨hp,x,hx⟩:=hat _ hmem
  obtain⟨F',hF'⟩:=d.some hD
  have hon:∀r,r<1024→lM F' r=jB (lM F) (L.take k) r:=fun r hr=>by
   have:=d.pr i r hr
   rw[bO hF',bO hD]at this
   simpa[jB]using this
  obtain⟨x1,x2,g,he⟩:=xk F' (L.getD k 0)
  rw[show decide (L.getD k 0<1024)=true from decide_eq_true hp,Bool.and_true]at he
  have hnd:bW (jB (lM F) (L.take k)) (L.drop k)=(if lM F' (L.getD k 0)=true then 0 else 1+newT F' (L.getD k 0))+bW (jB (lM F) (L.take (k+1))) (L.drop (k+1)):=by
   rw[Dm hk,bW,Gs hk,←hon _ hp,Qv,Dl hp hon]
  refine⟨_,x1,x2,g,_,fun V0 hb=>(a.bl.step hb).queryP hG hF' _ (by omega) he,fun V0 hb=>?_⟩
  cases hpr:lM F' (L.getD k 0)with
  | true=>
   refine(I4 b2 b3 _ x1 x2 g V0).mono ?_
   rintro e w' ⟨rfl,hb'⟩
   rw[hpr,if_pos rfl,Nat.zero_add]at hnd
   refine⟨0,rfl,Or.inl ⟨rfl,c',D',Q',V',?_,(b.trans (ay.below hb)).trans (ay.below hb'),?_⟩⟩
   ·rw[←hnd];exact(a.step hb).step hb'
   ·have hpb:=hon _ hp
    rw[hpr]at hpb
    refine d.congr fun r hr=>?_
    rw[dX hk]
    by_cases er:r=L.getD k 0
    ·subst er
     unfold jB at hpb
     rw[bO hD]
     by_cases e2:(F (L.getD k 0)).1=true
     ·exact Or.inl e2
     ·right
      have:decide (L.getD k 0∈L.take k)=true:=by
       simp only[lM,Bool.not_eq_true]at e2 hpb
       rw[e2]at hpb;simpa using hpb.symm
      rw[this];simp
    ·right
     show decide (r∈L.take k)=decide (r∈L.take k++[L.getD k 0])
     generalize L.getD k 0=pk at er ⊢
     simp[er]
  | false=>
   have hz:x1=false∧x2=false∧g=0:=by
    have h3:MJ F' (L.getD k 0)=z0:=by
     unfold MJ
     rw[if_neg]
     rintro⟨_,h4⟩
     simp only[lM]at hpr
     rw[hpr]at h4;cases h4
    rw[h3,hpr]at he
    simp only[z0,Prod.mk.injEq]at he
    exact⟨he.2.1.symm,he.2.2.1.symm,he.2.2.2.symm⟩
   obtain⟨rfl,rfl,rfl⟩:=hz
   rw[hpr]at hnd
   simp only[Bool.false_eq_true,if_false]at hnd
   have how:=a.j.ow1 i
   rw[dQ]at how
   refine((a.bl.step hb).adA hG hF' ((hcap.keep b).below hb) hp hpr hx (by omega)).mono ?_
   rintro e w' ⟨rfl,xf,hxf,hq,hend⟩
   have hj:=a.j.touch hF' hp hpr hq hxf (w:=x) (k:=false) (Or.inr rfl) (by rw[lZ hG,hx];simp) (by rw[dQ];omega)
   rw[jY]at hj
   refine⟨0,rfl,Or.inl ⟨rfl,_,_,_,_,⟨hend.1,?_⟩,(b.trans (ay.below hb)).trans hend.2,?_⟩⟩
   ·have e2:bW (jB (lM F) (L.take (k+1))) (L.drop (k+1))=bW (jB (lM F) (L.take k)) (L.drop k)-(1+newT F' (L.getD k 0)):=by omega
    rw[e2];exact hj
   ·refine⟨fun j r hr=>?_,fun j r y hr hy=>?_,fun j=>(qV hF' _ j).trans (d.dom j)⟩
    ·rw[show Qr x xf=(true,x,false,(xf:Int))from rfl,(a.j.LV V' hF' hpr hq j r hr).1,d.pr j r hr,dX hk]
     by_cases ej:j=i
     ·subst ej
      by_cases er:r=L.getD k 0
      ·subst er;simp
      ·generalize L.getD k 0=pk at er ⊢
       simp[er]
     ·simp[ej]
    ·rw[show Qr x xf=(true,x,false,(xf:Int))from rfl,(a.j.LV V' hF' hpr hq j r hr).2 y hy,d.rd j r y hr hy]
 ·rintro e w' ⟨er,rfl,⟨rfl,c',D',Q',V',a,b,d⟩|⟨_,hf⟩⟩
  ·rw[List.take_length]at d
   refine⟨rfl,c',D',Q',V',?_,b,d⟩
   have:single i (bW (jB (lM F) (L.take L.length)) (L.drop L.length))=ig:=by rw[List.drop_length];exact jX i
   rwa [this]at a
  ·exact hf.elim
end
end
section
theorem afv(a b:Addr)(wr:Bool)(w:World):Calls Tryz.prog 131 #[.pointer (some a), .pointer (some b), .bool wr] w fun e w'=>∃b2 b3,e= .returned (.func (.func 180) #[] #[.pointer (some ⟨b2,0,none⟩), .pointer (some ⟨b3,0,none⟩)])∧w'.heap[b2]? =some (.cells #[.pointer (some b)] 127 (0,0))∧w'.heap[b3]? =some (.cells #[.bool wr] 4 (0,0))∧Below w.heap.size w w':=by
 have pE:∀(fn:Fn) (first cap:Array Value) (w:World),(Instr.makeFunc fn first cap).run Tryz.prog w= .ok (.func fn first cap) w:=fun _ _ _ _=>rfl
 go_enter Tryz.func131,Tryz.ntmps131
 go_wp2
 go_ret
 exact⟨_,_,rfl,heap_alloc2_old w _ _,heap_alloc2_new w _ _,ak w _ _⟩
theorem aaH(a b:Nat)(w:World):Calls Tryz.prog 134 #[.pointer (some ⟨a,0,none⟩), .pointer (some ⟨b,0,none⟩)] w fun e w'=>∃b2 b3,e= .returned (.func (.func 184) #[] #[.pointer (some ⟨b2,0,none⟩), .pointer (some ⟨b3,0,none⟩)])∧Cap w' b2 b3 a b∧Below w.heap.size w w':=by
 have pE:∀(fn:Fn) (first cap:Array Value) (w:World),(Instr.makeFunc fn first cap).run Tryz.prog w= .ok (.func fn first cap) w:=fun _ _ _ _=>rfl
 go_enter Tryz.func134,Tryz.ntmps134
 go_wp2
 go_ret
 exact⟨_,_,rfl,⟨heap_alloc2_old w _ _,heap_alloc2_new w _ _⟩,ak w _ _⟩
theorem aaI(a b:Nat)(w:World):Calls Tryz.prog 135 #[.pointer (some ⟨a,0,none⟩), .pointer (some ⟨b,0,none⟩)] w fun e w'=>∃b2 b3,e= .returned (.func (.func 187) #[] #[.pointer (some ⟨b2,0,none⟩), .pointer (some ⟨b3,0,none⟩)])∧Cap w' b2 b3 a b∧Below w.heap.size w w':=by
 have pE:∀(fn:Fn) (first cap:Array Value) (w:World),(Instr.makeFunc fn first cap).run Tryz.prog w= .ok (.func fn first cap) w:=fun _ _ _ _=>rfl
 go_enter Tryz.func135,Tryz.ntmps135
 go_wp2
 go_ret
 exact⟨_,_,rfl,⟨heap_alloc2_old w _ _,heap_alloc2_new w _ _⟩,ak w _ _⟩
theorem uP(e:fQ)(h:e.1=true){f:Nat}(hf:e.2.2.2=(f:Int)):e=(true,e.2.1,e.2.2.1,(f:Int)):=by
 obtain⟨a,b,c,d⟩:=e
 simp only at h hf ⊢
 rw[h,hf]
theorem Qy{w k:Bool}{f:Int}(h:nM true w k f=true):w=false∨k=false:=by
 unfold nM at h
 cases w<;>cases k<;>simp at h ⊢
section
variable {W0 w:World} {I:lK} {q c:Nat} {Q:Nat→Nat} {V:Nat→Nat→Int} {Lb:List Nd} {G:Int→Option Pc} {D:Int→Option Sp} {ow:Int→Nat} {P:Int→Nat→Option Bool}
theorem dR.Ou(h:dR W0 w I q c D Q V Lb G ig (PG G)){i:Int}{s:Pc}{F:Sp}(hG:G i=some s)(hD:D i=some F){Lb1:List Nd}{w1:World}{b2 b3:Nat}(hcap:Cap w1 b2 b3 I.ss s.blk){v:Value}{L:List Nat}(hv:jw w1 v L)(hL:L.length≤2000){wr:Bool}(hmay:qW s.ar wr L=0)(h1:dR W0 w1 I q c D Q V Lb1 G (single i (bW (lM F) L)) (PG G)):
  Calls Tryz.prog 95 #[.pointer (some ⟨I.ss,0,none⟩), .pointer (some ⟨s.blk,0,none⟩),v, .func (.func 184) #[] #[.pointer (some ⟨b2,0,none⟩), .pointer (some ⟨b3,0,none⟩)]] w1 fun e w'=>e= .returned (.int .i64 0)∧Jb W0 w1 w' I q D V Lb1 G ig i (fun r=>decide (r∈L)):=dR.Ot (h.bl.area hG).2 hG hD hcap hv hL hmay h1
theorem dR.Ua(h:dR W0 w I q c D Q V Lb G ig (PG G)){i:Int}{s:Pc}{F:Sp}(hG:G i=some s)(hD:D i=some F){b2 b3:Nat}(hcap:Cap w b2 b3 I.ss s.blk){v:Value}{L:List Nat}(hv:jw w v L)(hL:L.length≤2000)(hp:∀p∈L,p<1024∧(F p).1=true∧fF s.ar (p:Int)=some true):
  Calls Tryz.prog 95 #[.pointer (some ⟨I.ss,0,none⟩), .pointer (some ⟨s.blk,0,none⟩),v, .func (.func 187) #[] #[.pointer (some ⟨b2,0,none⟩), .pointer (some ⟨b3,0,none⟩)]] w fun e w'=>e= .returned (.int .i64 0)∧∃c' D' Q' V',dR W0 w' I q c' D' Q' V' Lb G ig (PG G)∧ay w w'∧Seen D V D' V' i (fun _=>false)∧∀F',D' i=some F'→∀p∈L,(F' p).2.1=true:=by
 refine(om I.ss s.blk I.tb 187 (s.root:Int) _ Et v L
  (fun k U=>∃c' D' Q' V',dR W0 U I q c' D' Q' V' Lb G ig (PG G)∧ay w U∧Seen D V D' V' i (fun _=>false)∧∀F',D' i=some F'→∀p∈L.take k,(F' p).2.1=true)
  (fun _ _=>False) w
  (fun k U ⟨_,_,_,_,a,b,_⟩=>⟨a.bl.cells.2.2.2.2.1,(a.bl.iK hG).2.1,hv.keep b⟩)
  (fun k U U' ⟨c',D',Q',V',a,b,d⟩ hb=>⟨c',D',Q',V',a.step hb,b.trans (ay.below hb),d⟩)
  (fun k U hk ⟨c',D',Q',V',a,b,d,hw⟩=>?_) ⟨c,D,Q,V,h,ay.refl _,Seen.refl D V i,by simp⟩ (by omega)).mono ?_
 ·have hmem:L.getD k 0∈L:=by
   rw[List.getD_eq_getElem?_getD,List.getElem?_eq_getElem hk];exact List.getElem_mem hk
  obtain⟨hp1,hp2,hp3⟩:=hp _ hmem
  obtain⟨F',hF'⟩:=d.some hD
  have hpr:(F' (L.getD k 0)).1=true:=by
   have:=d.pr i _ hp1
   rw[bO hF',bO hD,hp2]at this
   simpa using this
  obtain⟨f,hf,hfn,Le,hfit⟩:=a.j.held hF' hp1 hpr
  have hent:=uP _ hpr hf
  obtain⟨x1,hx1⟩:∃x1,x1=(F' (L.getD k 0)).2.1:=⟨_,rfl⟩
  obtain⟨x2,hx2⟩:∃x2,x2=(F' (L.getD k 0)).2.2.1:=⟨_,rfl⟩
  have hnot:=Qy (f:=(F' (L.getD k 0)).2.2.2) (w:=x1) (k:=x2) (by rw[hx1,hx2];have:=hfit.2.2;rwa [hpr]at this)
  have hperm:=a.j.perm i F' _ hF' hp1 hpr
  rw[lZ hG,hp3,←hx1,←hx2]at hperm
  rw[←hx1,←hx2]at hent
  have he:MJ F' (L.getD k 0)=(true,x1,x2,(f:Int)):=by unfold MJ;rw[if_pos ⟨hp1,hpr⟩];exact hent
  have hother:∀(e:fQ),e.2.1=true→∀K,aV D' i (some (aI F' (L.getD k 0) e)) i=some K→∀p∈L.take (k+1),(K p).2.1=true:=fun e h1 K hK p hpm=>by
   rw[aR]at hK
   cases hK
   by_cases ep:p=L.getD k 0
   ·rw[ep,aC];exact h1
   ·rw[aA _ _ _ _ ep]
    rw[dX hk]at hpm
    rcases List.mem_append.1 hpm with hpm|hpm
    ·exact hw F' hF' p hpm
    ·exact absurd (List.mem_singleton.1 hpm) ep
  refine⟨true,x1,x2,(f:Int),true,fun V0 hb=>(a.bl.step hb).queryP hG hF' _ (by omega) he,fun V0 hb=>?_⟩
  have XR:=(hcap.keep b).below hb
  cases x1 with
  |true=>
   have adG:x2=false:=by simpa using hnot
   subst adG
   refine((a.bl.step hb).XG XR Le hfn).mono ?_
   rintro e w' ⟨rfl,hend⟩
   refine⟨0,rfl,Or.inl ⟨rfl,c',D',Q',V',⟨hend.1,a.j⟩,(b.trans (ay.below hb)).trans hend.2,d,fun K hK p hpm=>?_⟩⟩
   rw[hF']at hK
   cases hK
   rw[dX hk]at hpm
   rcases List.mem_append.1 hpm with hpm|hpm
   ·exact hw F' hF' p hpm
   ·rw[List.mem_singleton.1 hpm];exact hx1.symm
  | false=>
   have adG:x2=true:=by simpa using hperm.symm
   subst adG
   by_cases h1:Q' f=1
   ·refine((a.bl.step hb).TJ hG hF' XR hp1 hpr hfn h1).mono ?_
    rintro e w' ⟨rfl,hend⟩
    have hj:=a.j.entry hF' hp1 hpr (w:=true) (k:=false) (Or.inr rfl) (P':=PG G) (by rw[lZ hG,hp3];rfl) (fun _ _ _=>rfl) (fun _=>by rw[hf,Int.toNat_natCast];exact h1)
    rw[hf]at hj
    exact⟨0,rfl,Or.inl ⟨rfl,c',_,Q',V',⟨hend.1,hj⟩,(b.trans (ay.below hb)).trans hend.2,d.same (fun j r hr=>⟨(LX V' hF' hpr hf.symm j r).1,fun y _=>(LX V' hF' hpr hf.symm j r).2 y⟩) (qV hF' _),hother _ rfl⟩⟩
   ·have hc:=a.j.afj f hfn
    refine((a.bl.step hb).TM hG hF' XR hp1 hpr hfn (by omega) (by omega)).mono ?_
    rintro e w' ⟨rfl,x,hxn,hx0,hend⟩
    have hj:=a.j.dup hF' hp1 hpr hf (by rw[lZ hG,hp3]) (by omega) hx0 hxn
    exact⟨0,rfl,Or.inl ⟨rfl,_,_,_,_,⟨hend.1,hj⟩,(b.trans (ay.below hb)).trans hend.2,d.same (fun j r hr=>⟨(a.j.XH V' hF' hpr hf hx0 Le j r hr).1,fun y _=>(a.j.XH V' hF' hpr hf hx0 Le j r hr).2 y⟩) (qV hF' _),hother _ rfl⟩⟩
 ·rintro e w' ⟨er,rfl,⟨rfl,c',D',Q',V',a,b,d,hw⟩|⟨_,hf⟩⟩
  ·rw[List.take_length]at hw
   exact⟨rfl,c',D',Q',V',a,b,d,hw⟩
  ·exact hf.elim
end
end
section
def uQ(va:Int)(words:Nat):List Nat:=span (va/32).toNat (((va%32).toNat+words-1)/32+1)
section
variable {W0 w:World} {I:lK} {q c:Nat} {Q:Nat→Nat} {V:Nat→Nat→Int} {Lb:List Nd} {G:Int→Option Pc} {D:Int→Option Sp}
inductive yQ (W0 w:World) (I:lK) (q c:Nat) (D:Int→Option Sp) (Q:Nat→Nat) (V:Nat→Nat→Int) (Lb:List Nd) (G:Int→Option Pc) (i:Int) (A:List Ar) (F:Sp) (va:Int) (words:Nat) (wr:Bool) (e:Ending) (w':World):Prop
 |far (h:32768≤va) (he:e= .returned (.tuple #[.int .i64 0, .int .i64 0, .int .i64 7])) (hb:Below w.heap.size w w')
 |may (h:va<32768) (hm:qW A wr (uQ va words)≠0) (he:e= .returned (.tuple #[.int .i64 0, .int .i64 0, .int .i64 (qW A wr (uQ va words))])) (hb:Below w.heap.size w w')
 |full (h:va<32768) (hm:qW A wr (uQ va words)=0) (hc:aX Lb i (bW (lM F) (uQ va words):Int)≠0) (he:e= .returned (.tuple #[.int .i64 0, .int .i64 0, .int .i64 (aX Lb i (bW (lM F) (uQ va words):Int))])) (hs:dR W0 w' I q c D Q V Lb G ig (PG G)) (hk:ay w w')
 |ok (h:va<32768) (hm:qW A wr (uQ va words)=0) (hc:aX Lb i (bW (lM F) (uQ va words):Int)=0) (c':Nat) (D':Int→Option Sp) (Q':Nat→Nat) (V':Nat→Nat→Int) (F':Sp) (f:Nat) (he:e= .returned (.tuple #[.int .i64 (f:Int), .int .i64 (va%32), .int .i64 0])) (hs:dR W0 w' I q c' D' Q' V' (aF Lb i (bW (lM F) (uQ va words):Int)) G ig (PG G)) (hk:ay w w') (hv:Seen D V D' V' i (fun r=>decide (r∈uQ va words))) (hD:D' i=some F') (hp:(F' (va/32).toNat).1=true) (hf:(F' (va/32).toNat).2.2.2=(f:Int)) (hw:wr=true→(F' (va/32).toNat).2.1=true)
set_option maxHeartbeats 8000000 in
theorem dR.reach(h:dR W0 w I q c D Q V Lb G ig (PG G)){i:Int}{s:Pc}{F:Sp}(hG:G i=some s)(hD:D i=some F)(va:Int)(hva:0≤va∧va<4294967296)(words:Nat)(h1:1≤words)(h2:words≤1024)(wr:Bool):
  Calls Tryz.prog 75 #[.pointer (some ⟨I.ss,0,none⟩), .pointer (some ⟨s.blk,0,none⟩), .int .u32 va, .int .i64 (words:Int), .bool wr] w (yQ W0 w I q c D Q V Lb G i s.ar F va words wr):=by
 by_cases adH:32768≤va
 ·go_enter Tryz.func75,Tryz.ntmps75
  go_wp2_with fail
  refine(VP va w adH).mono ?_
  rintro e w1 ⟨rfl,rfl⟩
  go_wp2
  go_ret3
  exact yQ.far adH rfl (Below.refl _ _)
 ·have hn0:=h.bl.mo
  obtain⟨p0,hp0⟩:∃p0,p0=(va/32).toNat:=⟨_,rfl⟩
  obtain⟨z,hz⟩:∃z,z=(va%32).toNat:=⟨_,rfl⟩
  have ep:va/32=(p0:Int):=by omega
  have ez:va%32=(z:Int):=by omega
  have hp1:p0<1024:=by omega
  have hz1:z<32:=by omega
  obtain⟨n,hn⟩:∃n,n=(z+words-1)/32:=⟨_,rfl⟩
  have hn1:n≤40:=by omega
  have hL:uQ va words=span p0 (n+1):=by unfold uQ;rw[←hp0,←hz,hn]
  have VA:Hid (va<32768):=Lib.hid (by omega)
  have HP0:=Lib.hid hp1
  have PV:=Lib.hid hp0.symm
  have ZV:=Lib.hid ez
  have hmem:∀p,p∈uQ va words→p≤100000:=fun p hp=>by rw[hL,jo]at hp;omega
  have hlen:(uQ va words).length=n+1:=by rw[hL,mD]
  have hin:p0∈uQ va words:=by rw[hL,jo];omega
  have d1:IntKind.i64.wrap ((z:Int)+(words:Int))=(z:Int)+(words:Int):=IntWalk.i64_in _ (by omega)
  have d2:IntKind.i64.wrap ((z:Int)+(words:Int)-1)=(z:Int)+(words:Int)-1:=IntWalk.i64_in _ (by omega)
  have d3:((z:Int)+(words:Int)-1).tdiv 32=(n:Int):=by rw[Int.tdiv_eq_ediv_of_nonneg (by omega)];omega
  have d5:IntKind.i64.wrap (n:Int)=(n:Int):=IntWalk.i64_in _ (by omega)
  have d6:IntKind.i64.wrap ((n:Int)+1)=(n:Int)+1:=IntWalk.i64_in _ (by omega)
  have LQ:=Lib.hid (And.intro hL (And.intro hmem (And.intro hlen hin)))
  have P1:=Lib.hid (RQ va w hva.1 VA.out h.bl.Qg)
  have P2:=Lib.hid (show ∀m,Calls Tryz.prog 130 #[.int .u32 va] (w.drewN m) fun e w'=>e= .returned (.tuple #[.int .i64 (va/1024), .int .i64 (va/32%32), .int .i64 (va%32), .int .i64 0])∧∃n,w'=(w.drewN m).drewN n from fun m=>ZG va (w.drewN m) hva.1 VA.out (h.step (below_drewN (Below.refl _ _) m)).bl.Qg)
  have RN:=Lib.hid (show ∀W,Calls Tryz.prog 82 #[.int .i64 (p0:Int), .int .i64 ((n:Int)+1)] W fun e w'=>∃v,e= .returned v∧jw w' v (uQ va words)∧Below W.heap.size W w' from fun W=>by
   rw[hL,show((n:Int)+1)=((n+1:Nat):Int) by omega]
   exact XB p0 (n+1) (by omega) (by omega) W)
  have H:=Lib.hid h
  have HG:=Lib.hid hG
  have HD:=Lib.hid hD
  rw[ep]at P1
  rw[ez]at P2
  clear h hG hD adH hva hp0 hz ep ez hn hL hmem hlen hin hn0
  go_enter Tryz.func75,Tryz.ntmps75
  go_wp2_with fail
  refine P1.out.mono ?_
  rintro e w1 ⟨rfl,m1,rfl⟩
  go_wp2_with fail
  refine(P2.out m1).mono ?_
  rintro e w2 ⟨rfl,m2,rfl⟩
  have B2:Hid (Below w.heap.size w ((w.drewN m1).drewN m2)):=Lib.hid (below_drewN (below_drewN (Below.refl _ _) m1) m2)
  generalize(w.drewN m1).drewN m2=w2 at B2 ⊢
  go_wp2_with fail
  refine(RN.out w2).mono ?_
  rintro e w3 ⟨v,rfl,hv,hb3⟩
  have B3:=Lib.hid (B2.out.trans (hb3.mono B2.out.size))
  have V3:=Lib.hid hv
  clear hv hb3 d1 d2 d3 d5 d6
  go_wp2_with fail
  refine(afv _ _ wr w3).mono ?_
  rintro e w4 ⟨b2,b3,rfl,k2,k3,hb4⟩
  have B4:=Lib.hid (B3.out.trans (hb4.mono B3.out.size))
  have V4:=Lib.hid (V3.out.keep (ay.below hb4))
  have MW:=Lib.hid ((H.out.step B4.out).aaG HG.out HD.out k2 k3 V4.out (by rw[LQ.out.2.2.1];omega) LQ.out.2.1)
  clear k2 k3 hb4
  go_wp2_with fail
  refine MW.out.mono ?_
  rintro e w5 ⟨rfl,hb5⟩
  have B5:=Lib.hid (B4.out.trans (hb5.mono B4.out.size))
  have V5:=Lib.hid (V4.out.keep (ay.below hb5))
  clear hb5
  obtain⟨me,hme⟩:∃me,me=qW s.ar wr (uQ va words):=⟨_,rfl⟩
  have ME:=Lib.hid hme
  rw[←hme]
  clear hme
  by_cases h0:me=0
  ·subst h0
   have M0:=Lib.hid ME.out.symm
   have afw:p0+(n+1)≤1024:=by
    have hq:=xq.1 M0.out (p0+n) (by rw[LQ.out.1,jo];omega)
    obtain⟨x,hx,_⟩:=yP hq
    by_cases hq2:p0+n<1024
    ·omega
    ·rw[yH (H.out.bl.area HG.out).2.up (by omega)]at hx;cases hx
   have S5:=Lib.hid (H.out.step B5.out)
   have V5':jw w5 v (span p0 (n+1)):=by rw[←LQ.out.1];exact V5.out
   obtain⟨nd,hnd⟩:∃nd,nd=bW (lM F) (uQ va words):=⟨_,rfl⟩
   have ND:=Lib.hid hnd
   have N0:=Lib.hid ((S5.out.bl.step (Below.refl _ _).drew).needs HG.out HD.out (V5'.keep (ay.below (Below.refl _ _).drew)) afw)
   rw[←LQ.out.1,←hnd]at N0
   obtain⟨er,her⟩:∃er,er=aX Lb i (nd:Int):=⟨_,rfl⟩
   have CE:=Lib.hid her
   have c3:=S5.out.bl.cells.2.2.2.1
   have s0:=(S5.out.bl.iK HG.out).1
   clear V5' hnd her
   go_wp2_with fail
   go_region_held3 (fun W=>W.cell? ⟨I.ss,3,none⟩=some (.pointer (some ⟨I.bb,0,none⟩))∧W.cell? ⟨s.blk,0,none⟩=some (.int .i64 i)) (first|go_keep|exact⟨c3,s0⟩)
    (first
     |((go_at_call 133;with_reducible refine N0.out.mono ?_);rintro e w6 ⟨rfl,hb6⟩;have B6:Hid (Below w5.heap.size w5 w6):=Lib.hid (eF hb6);have S6:=Lib.hid (S5.out.step B6.out);have c3:=S6.out.bl.cells.2.2.2.1;have s0:=(S6.out.bl.iK HG.out).1;have CG:=Lib.hid (S6.out.bl.nE i (nd:Int) CE.out.symm);clear hb6)
     |((go_at_call 132;with_reducible refine CG.out.mono ?_);rintro e w7 ⟨rfl,h7⟩;have E7:=Lib.hid h7;have c3:=E7.out.1.cells.2.2.2.1;have s0:=(E7.out.1.iK HG.out).1;clear h7))
   have KB6:=Lib.hid (ay.below (B5.out.trans (B6.out.mono B5.out.size)))
   have K7:=Lib.hid (KB6.out.trans E7.out.2)
   clear c3 s0
   by_cases hc0:er=0
   ·subst hc0
    have CH:Hid (aX Lb i (bW (lM F) (uQ va words):Int)=0):=Lib.hid (by rw[←ND.out];exact CE.out.symm)
    have S7:Hid (dR W0 w7 I q c D Q V (aF Lb i (bW (lM F) (uQ va words):Int)) G (single i (bW (lM F) (uQ va words))) (PG G)):=Lib.hid (by
     have hj:=H.out.j.nE CH.out
     rw[uO]at hj
     refine⟨?_,hj⟩
     have:=E7.out.1
     rwa [ND.out]at this)
    have V7:=Lib.hid (V5.out.keep ((ay.below B6.out).trans E7.out.2))
    go_wp2_with fail
    refine(aaH I.ss s.blk w7).mono ?_
    rintro e w71 ⟨t2,t3,rfl,htc,XT⟩
    have V71:=Lib.hid (V7.out.keep (ay.below XT))
    have TW:=Lib.hid ((S7.out.step XT).j)
    have TC:=Lib.hid htc
    have S71:=Lib.hid (S7.out.step XT)
    have K71:=Lib.hid (K7.out.trans (ay.below XT))
    have WKT:=Lib.hid (dR.Ou H.out HG.out HD.out TC.out V71.out (by rw[LQ.out.2.2.1];omega) M0.out S71.out)
    clear htc XT
    go_wp2_with fail
    refine WKT.out.mono ?_
    rintro e w72 ⟨rfl,c2',D2,Q2,V2,hs2,hk2,hv2⟩
    have S72:=Lib.hid hs2
    have K72:=Lib.hid (K71.out.trans hk2)
    have V72:=Lib.hid (V71.out.keep hk2)
    have SN:=Lib.hid hv2
    obtain⟨F2,hF2⟩:=hv2.some HD.out
    have HF2:=Lib.hid hF2
    have PR:Hid (∀p,p∈uQ va words→p<1024∧(F2 p).1=true):=Lib.hid fun p hp=>by
     have hp1:p<1024:=by rw[LQ.out.1,jo]at hp;omega
     refine⟨hp1,?_⟩
     have:=SN.out.pr i p hp1
     rw[bO HF2.out]at this
     rw[this];simp[hp]
    clear hs2 hk2 hv2 hF2
    cases wr with
    | false=>
     obtain⟨w8,hw8⟩:∃w8,w8=w72:=⟨_,rfl⟩
     obtain⟨c8,D8,Q8,V8,F8,S8,K8,SE,HF8,FP⟩:∃(c8:Nat) (D8:Int→Option Sp) (Q8:Nat→Nat) (V8:Nat→Nat→Int) (F8:Sp),Hid (dR W0 w8 I q c8 D8 Q8 V8 (aF Lb i (bW (lM F) (uQ va words):Int)) G ig (PG G))∧Hid (ay w w8)∧Hid (Seen D V D8 V8 i (fun r=>decide (r∈uQ va words)))∧Hid (D8 i=some F8)∧Hid ((F8 p0).1=true):=by
      subst hw8
      exact⟨c2',D2,Q2,V2,F2,S72,K72,SN,HF2,Lib.hid (PR.out p0 LQ.out.2.2.2).2⟩
     go_wp2_with fail
     rw[←hw8]
     clear hw8
     obtain⟨f,hf,hfn,Le,hfit⟩:=S8.out.j.held HF8.out HP0.out FP.out
     have hent:=uP _ FP.out hf
     obtain⟨x1,hx1⟩:∃x1,x1=(F8 p0).2.1:=⟨_,rfl⟩
     obtain⟨x2,hx2⟩:∃x2,x2=(F8 p0).2.2.1:=⟨_,rfl⟩
     rw[←hx1,←hx2]at hent
     have he8:MJ F8 p0=(true,x1,x2,(f:Int)):=by unfold MJ;rw[if_pos ⟨HP0.out,FP.out⟩];exact hent
     have FF:=Lib.hid hf
     have X1:=Lib.hid hx1
     have HQ:=Lib.hid (show ∀V',Below w8.heap.size w8 V'→Calls Tryz.prog 136 #[.pointer (some ⟨I.tb,0,none⟩), .int .i64 (s.root:Int), .int .i64 (p0:Int)] V' fun e w'=>e= .returned (.tuple #[ent true x1 x2 (f:Int), .bool true])∧Below V'.heap.size V' w' from fun V' hb=>(S8.out.bl.step hb).queryP HG.out HF8.out p0 (by have:=HP0.out;omega) he8)
     have HQ1:=Lib.hid (HQ.out w8.drew (Below.refl _ _).drew)
     have HQ2:=Lib.hid (HQ.out (w8.alloc (.cells #[.bool false, .bool false, .bool false, .int .i64 0] 217)).drew ((Below.refl _ _).alloc (Nat.le_refl _) _).drew)
     have CW:Hid (∀V',Below w8.heap.size w8 V'→V'.cell? ⟨I.ss,4,none⟩=some (.pointer (some ⟨I.tb,0,none⟩))∧V'.cell? ⟨s.blk,1,none⟩=some (.int .i64 (s.root:Int))):=Lib.hid fun V' hb=>⟨(S8.out.bl.step hb).cells.2.2.2.2.1,((S8.out.bl.step hb).iK HG.out).2.1⟩
     obtain⟨c4,s1⟩:=CW.out w8 (Below.refl _ _)
     clear hf hfn Le hfit hent hx1 hx2 he8
     go_cut [19] (fun v19 wx=>∃b9,v19= .pointer (some ⟨b9,0,none⟩)∧wx.heap[b9]? =some (eU (true,x1,x2,(f:Int)))∧Below w8.heap.size w8 wx)
     case first=>
      go_region_held3 (fun w'=>w'.cell? ⟨I.ss,4,none⟩=some (.pointer (some ⟨I.tb,0,none⟩))∧w'.cell? ⟨s.blk,1,none⟩=some (.int .i64 (s.root:Int))) (first
        |go_keep
        |with_reducible exact CW.out w9 B9.out
        |with_reducible exact CW.out _ (Below.refl _ _).drew
        |with_reducible exact CW.out _ ((Below.refl _ _).alloc (Nat.le_refl _) _).drew
        |with_reducible exact CW.out _ (B9.out.alloc B9.out.size _)
        |with_reducible exact CW.out _ UJ.out)
       (first
        |((go_at_call 136;with_reducible refine HQ1.out.mono ?_);rintro e w9 ⟨rfl,qy⟩;have B9:=Lib.hid (eF qy);clear qy)
        |((go_at_call 136;with_reducible refine HQ2.out.mono ?_);rintro e w9 ⟨rfl,qy⟩;have B9:Hid (Below w8.heap.size w8 w9):=Lib.hid (vV qy);have E9:Hid (w9.heap[w8.heap.size]? =some (eU z0)):=Lib.hid (below_block qy (heap_alloc_new w8 _));have f0:=frozen_of_row _ w8.heap.size 0 _ _ E9.out;have f1:=frozen_of_row _ w8.heap.size 1 _ _ E9.out;have f2:=frozen_of_row _ w8.heap.size 2 _ _ E9.out;have f3:=frozen_of_row _ w8.heap.size 3 _ _ E9.out;have UJ:Hid (Below w8.heap.size w8 ((((w9.setCell ⟨w8.heap.size,0,none⟩ (.bool true)).setCell ⟨w8.heap.size,1,none⟩ (.bool x1)).setCell ⟨w8.heap.size,2,none⟩ (.bool x2)).setCell ⟨w8.heap.size,3,none⟩ (.int .i64 (f:Int)))):=Lib.hid (dM (e':=(true,x1,x2,(f:Int))) B9.out (Nat.le_refl _));obtain⟨q0,q1,q2,q3⟩:=aU (e:=z0) E9.out;clear qy))
      all_goals
       go_wp2_with fail
       go_meet
       case rel=>first|exact⟨_,rfl,heap_alloc_new w9 _,B9.out.alloc B9.out.size _⟩|exact⟨_,rfl,gL (e':=(true,x1,x2,(f:Int))) E9.out,dM (e':=(true,x1,x2,(f:Int))) B9.out (Nat.le_refl _)⟩
     case rest=>
      obtain⟨b9,rfl,TF,qy⟩:=hcut
      obtain⟨w10,XU⟩:∃w10,w10=wc:=⟨_,rfl⟩
      rw[←XU]at TF qy ⊢
      clear XU c4 s1
      obtain⟨m0,m1,m2,m3⟩:=aU TF
      simp only at m0 m1 m2 m3
      have B10:=Lib.hid qy
      clear TF qy
      go_wp2_with fail
      go_ret3
      refine yQ.ok VA.out M0.out CH.out c8 D8 Q8 V8 F8 f ?_ (S8.out.step B10.out) (K8.out.trans (ay.below B10.out)) SE.out HF8.out ?_ ?_ ?_
      ·rw[ZV.out];rfl
      ·rw[PV.out];exact FP.out
      ·rw[PV.out];exact FF.out
      ·intro hx;cases hx
    | true=>
     go_wp2_with fail
     refine(aaI I.ss s.blk w72).mono ?_
     rintro e w73 ⟨t4,t5,rfl,htc,aaJ⟩
     have S73:=Lib.hid (S72.out.step aaJ)
     have WKW:=Lib.hid (S73.out.Ua HG.out HF2.out htc (V72.out.keep (ay.below aaJ)) (by rw[LQ.out.2.2.1];omega) (fun p hp=>⟨(PR.out p hp).1,(PR.out p hp).2,by
      obtain⟨x,hx,hx2⟩:=yP (xq.1 M0.out p hp)
      rw[hx,hx2 rfl]⟩))
     have K73:=Lib.hid (K72.out.trans (ay.below aaJ))
     clear htc aaJ
     go_wp2_with fail
     refine WKW.out.mono ?_
     rintro e w8 ⟨rfl,c8,D8,Q8,V8,hs8,hk8,hv8,hw8⟩
     obtain⟨F8,hF8⟩:=hv8.some HF2.out
     have S8:=Lib.hid hs8
     have K8:=Lib.hid (K73.out.trans hk8)
     have HF8:=Lib.hid hF8
     have WR:=Lib.hid (hw8 F8 hF8 p0 LQ.out.2.2.2)
     have SE:Hid (Seen D V D8 V8 i (fun r=>decide (r∈uQ va words))):=Lib.hid (SN.out.same (fun j r hr=>⟨by have:=hv8.pr j r hr;simpa using this,fun y hy=>hv8.rd j r y hr hy⟩) hv8.dom)
     have FP:Hid ((F8 p0).1=true):=Lib.hid (by
      have:=hv8.pr i p0 HP0.out
      rw[bO hF8,bO HF2.out,(PR.out p0 LQ.out.2.2.2).2]at this
      simpa using this)
     clear hs8 hk8 hv8 hw8 hF8
     go_wp2_with fail
     obtain⟨f,hf,hfn,Le,hfit⟩:=S8.out.j.held HF8.out HP0.out FP.out
     have hent:=uP _ FP.out hf
     obtain⟨x1,hx1⟩:∃x1,x1=(F8 p0).2.1:=⟨_,rfl⟩
     obtain⟨x2,hx2⟩:∃x2,x2=(F8 p0).2.2.1:=⟨_,rfl⟩
     rw[←hx1,←hx2]at hent
     have he8:MJ F8 p0=(true,x1,x2,(f:Int)):=by unfold MJ;rw[if_pos ⟨HP0.out,FP.out⟩];exact hent
     have FF:=Lib.hid hf
     have X1:=Lib.hid hx1
     have HQ:=Lib.hid (show ∀V',Below w8.heap.size w8 V'→Calls Tryz.prog 136 #[.pointer (some ⟨I.tb,0,none⟩), .int .i64 (s.root:Int), .int .i64 (p0:Int)] V' fun e w'=>e= .returned (.tuple #[ent true x1 x2 (f:Int), .bool true])∧Below V'.heap.size V' w' from fun V' hb=>(S8.out.bl.step hb).queryP HG.out HF8.out p0 (by have:=HP0.out;omega) he8)
     have HQ1:=Lib.hid (HQ.out w8.drew (Below.refl _ _).drew)
     have HQ2:=Lib.hid (HQ.out (w8.alloc (.cells #[.bool false, .bool false, .bool false, .int .i64 0] 217)).drew ((Below.refl _ _).alloc (Nat.le_refl _) _).drew)
     have CW:Hid (∀V',Below w8.heap.size w8 V'→V'.cell? ⟨I.ss,4,none⟩=some (.pointer (some ⟨I.tb,0,none⟩))∧V'.cell? ⟨s.blk,1,none⟩=some (.int .i64 (s.root:Int))):=Lib.hid fun V' hb=>⟨(S8.out.bl.step hb).cells.2.2.2.2.1,((S8.out.bl.step hb).iK HG.out).2.1⟩
     obtain⟨c4,s1⟩:=CW.out w8 (Below.refl _ _)
     clear hf hfn Le hfit hent hx1 hx2 he8
     go_cut [19] (fun v19 wx=>∃b9,v19= .pointer (some ⟨b9,0,none⟩)∧wx.heap[b9]? =some (eU (true,x1,x2,(f:Int)))∧Below w8.heap.size w8 wx)
     case first=>
      go_region_held3 (fun w'=>w'.cell? ⟨I.ss,4,none⟩=some (.pointer (some ⟨I.tb,0,none⟩))∧w'.cell? ⟨s.blk,1,none⟩=some (.int .i64 (s.root:Int))) (first
        |go_keep
        |with_reducible exact CW.out w9 B9.out
        |with_reducible exact CW.out _ (Below.refl _ _).drew
        |with_reducible exact CW.out _ ((Below.refl _ _).alloc (Nat.le_refl _) _).drew
        |with_reducible exact CW.out _ (B9.out.alloc B9.out.size _)
        |with_reducible exact CW.out _ UJ.out)
       (first
        |((go_at_call 136;with_reducible refine HQ1.out.mono ?_);rintro e w9 ⟨rfl,qy⟩;have B9:=Lib.hid (eF qy);clear qy)
        |((go_at_call 136;with_reducible refine HQ2.out.mono ?_);rintro e w9 ⟨rfl,qy⟩;have B9:Hid (Below w8.heap.size w8 w9):=Lib.hid (vV qy);have E9:Hid (w9.heap[w8.heap.size]? =some (eU z0)):=Lib.hid (below_block qy (heap_alloc_new w8 _));have f0:=frozen_of_row _ w8.heap.size 0 _ _ E9.out;have f1:=frozen_of_row _ w8.heap.size 1 _ _ E9.out;have f2:=frozen_of_row _ w8.heap.size 2 _ _ E9.out;have f3:=frozen_of_row _ w8.heap.size 3 _ _ E9.out;have UJ:Hid (Below w8.heap.size w8 ((((w9.setCell ⟨w8.heap.size,0,none⟩ (.bool true)).setCell ⟨w8.heap.size,1,none⟩ (.bool x1)).setCell ⟨w8.heap.size,2,none⟩ (.bool x2)).setCell ⟨w8.heap.size,3,none⟩ (.int .i64 (f:Int)))):=Lib.hid (dM (e':=(true,x1,x2,(f:Int))) B9.out (Nat.le_refl _));obtain⟨q0,q1,q2,q3⟩:=aU (e:=z0) E9.out;clear qy))
      all_goals
       go_wp2_with fail
       go_meet
       case rel=>first|exact⟨_,rfl,heap_alloc_new w9 _,B9.out.alloc B9.out.size _⟩|exact⟨_,rfl,gL (e':=(true,x1,x2,(f:Int))) E9.out,dM (e':=(true,x1,x2,(f:Int))) B9.out (Nat.le_refl _)⟩
     case rest=>
      obtain⟨b9,rfl,TF,qy⟩:=hcut
      obtain⟨w10,XU⟩:∃w10,w10=wc:=⟨_,rfl⟩
      rw[←XU]at TF qy ⊢
      clear XU c4 s1
      obtain⟨m0,m1,m2,m3⟩:=aU TF
      simp only at m0 m1 m2 m3
      have B10:=Lib.hid qy
      clear TF qy
      go_wp2_with fail
      go_ret3
      refine yQ.ok VA.out M0.out CH.out c8 D8 Q8 V8 F8 f ?_ (S8.out.step B10.out) (K8.out.trans (ay.below B10.out)) SE.out HF8.out ?_ ?_ ?_
      ·rw[ZV.out];rfl
      ·rw[PV.out];exact FP.out
      ·rw[PV.out];exact FF.out
      ·intro _;rw[PV.out];exact WR.out
   ·have hne:(er !=0)=true:=by simpa using hc0
    go_wp2
    go_ret3
    refine yQ.full VA.out M0.out ?_ ?_ ⟨?_,H.out.j⟩ K7.out
    ·rw[←ND.out,←CE.out];exact hc0
    ·rw[←ND.out,←CE.out];rfl
    ·have:=E7.out.1
     unfold aF at this
     rwa [←CE.out,if_neg hc0]at this
  ·have hne:(me !=0)=true:=by simpa using h0
   go_wp2
   go_ret3
   refine yQ.may VA.out ?_ ?_ B5.out
   ·rw[←ME.out];exact h0
   ·rw[←ME.out];rfl
end
end
end Go.Proofs.YtammlljefhakmaaGreatDoor
