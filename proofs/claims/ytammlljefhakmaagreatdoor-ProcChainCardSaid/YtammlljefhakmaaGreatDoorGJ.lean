/- Helps of the proof. No condition. -/
import Derived.Test.YtammlljefhakmaaGreatDoorGI4
import Derived.Deep.WholeRow
import Derived.OneCell
import Derived.Test.YtammlljefhakmaaGreatDoorGA0
namespace Go.Proofs.YtammlljefhakmaaGreatDoor
open Go.RowKit
set_option maxRecDepth 100000
section
def jm(w:World):Prop:=∀j,j<64→w.cell? ⟨2,j,none⟩=some (.int .u8 ((Lib.deBruijn64tab.getD j 0:Nat):Int))
theorem jm.below{w w':World}(h:jm w)(hb:Below w.heap.size w w'):jm w':=fun j hj=>(hb.cell (p:=⟨2,j,none⟩) (block_lt_of_cell (h j hj))).trans (h j hj)
theorem jm.lt{w:World}(h:jm w):2<w.heap.size:=block_lt_of_cell (h 0 (by decide))
theorem jm.of_block{w w':World}(h:jm w)(hb:w'.heap[2]? =w.heap[2]?):jm w':=fun j hj=>(World.cell?_of_block (w:=w) hb).trans (h j hj)
set_option maxHeartbeats 1000000 in
theorem ZO(x k idx:Nat)(w:World)(hx0:((x:Int)==0)=false)
  (key:IntKind.u64.wrap (bits BinOp.and IntKind.u64 (x:Int) (IntKind.u64.wrap (-(x:Int)))*285870213051353865)/288230376151711744=(idx:Int))
  (hi:idx<64)(hk:k<64)(hcell:w.cell? ⟨2,idx,none⟩=some (.int .u8 k)):
  Calls Tryz.prog 245 #[.int .u64 x] w fun e w'=>e= .returned (.int .i64 k)∧w'=w:=by
 go_enter Tryz.func245,Tryz.ntmps245
 go_wp2_with(simp only[key])
 go_ret
 exact⟨rfl,rfl⟩
theorem acS(x a:Nat)(hx:x<18446744073709551616)(hx0:x≠0)(hlow:x &&& (18446744073709551616-x)=a):
  IntKind.u64.wrap (bits BinOp.and IntKind.u64 (x:Int) (IntKind.u64.wrap (-(x:Int)))*285870213051353865)/288230376151711744=((a*285870213051353865%18446744073709551616/288230376151711744:Nat):Int):=by
 have e1:IntKind.u64.wrap (-(x:Int))=((18446744073709551616-x:Nat):Int):=by rw[IntKind.wrap_u64];omega
 rw[e1,bits_and_u64_nat x _ hx (by omega),hlow,IntKind.wrap_u64]
 omega
theorem aeZ(x:Nat)(hx:x<18446744073709551616)(hx0:x≠0)(w:World)(hT:jm w):
  Calls Tryz.prog 245 #[.int .u64 x] w fun e w'=>e= .returned (.int .i64 ((Lib.ctz 64 x:Nat):Int))∧w'=w:=by
 obtain⟨hlow,hk⟩:=Lib.lowest_bit 64 x hx0 hx
 obtain⟨hi,htab⟩:=Lib.deBruijn64_at _ hk
 have hcell:=hT _ hi
 rw[htab]at hcell
 exact ZO x _ _ w (by simp;omega) (acS x _ hx hx0 hlow) hi hk hcell
structure Iter(w:World)(ba bw:Nat)(a:Nat)(R:List Nat):Prop where
 good:Good R
 at_:w.heap[ba]? =some (.cells #[.int .i64 (a:Int)] 3 (0,0))
 row:w.heap[bw]? =some (.cells (dL R).toArray 229 (0,0))
 ne:ba≠bw
 top:a≤16
 low:∀i,i<a→word R i=0
structure Two(w w':World)(p q:Nat):Prop where
 os:w'.os=w.os
 tape:w'.tape=w.tape
 output:w'.output=w.output
 size:w.heap.size≤w'.heap.size
 block:∀k,k<w.heap.size→k≠p→k≠q→w'.heap[k]? =w.heap[k]?
theorem Two.refl(w:World)(p q:Nat):Two w w p q:=⟨rfl,rfl,rfl,Nat.le_refl _,fun _ _ _ _=>rfl⟩
theorem Two.trans{a b c:World}{p q:Nat}(h:Two a b p q)(k:Two b c p q):Two a c p q:=
 ⟨k.os.trans h.os,k.tape.trans h.tape,k.output.trans h.output,Nat.le_trans h.size k.size,fun i hi h1 h2=>(k.block i (Nat.lt_of_lt_of_le hi h.size) h1 h2).trans (h.block i hi h1 h2)⟩
theorem Two.first{w w':World}{p:Nat}(h:w.grownBy w' (some p))(q:Nat):Two w w' p q:=⟨h.os,h.tape,h.output,h.size,fun k hk h1 _=>h.block k hk (fun e=>h1 (Option.some.inj e))⟩
theorem Two.second{w w':World}{q:Nat}(h:w.grownBy w' (some q))(p:Nat):Two w w' p q:=⟨h.os,h.tape,h.output,h.size,fun k hk _ h2=>h.block k hk (fun e=>h2 (Option.some.inj e))⟩
theorem Two.heap{a b c:World}{p q:Nat}(h:Two a b p q)(e1:c.heap=b.heap)(e2:c.os=b.os)(e3:c.tape=b.tape)(e4:c.output=b.output):Two a c p q:=
 ⟨e2.trans h.os,e3.trans h.tape,e4.trans h.output,by rw[e1];exact h.size,fun k hk h1 h2=>by rw[e1];exact h.block k hk h1 h2⟩
theorem Two.below{w w':World}{p q:Nat}(h:Two w w' p q){B:Nat}(hB:B≤w.heap.size)(hp:B≤p)(hq:B≤q):Below B w w':=⟨h.os,h.tape,h.output,h.size,fun k hk=>h.block k (by omega) (by omega) (by omega)⟩
theorem Iter.Pn{w:World}{ba bw a:Nat}{R:List Nat}(h:Iter w ba bw a R):w.cell? ⟨ba,0,none⟩=some (.int .i64 (a:Int)):=cell_of_one h.at_
theorem Iter.abv{w:World}{ba bw a:Nat}{R:List Nat}(h:Iter w ba bw a R):w.frozen? ⟨ba,0,none⟩=false:=free_of_one h.at_
theorem Iter.cellW{w:World}{ba bw a:Nat}{R:List Nat}(h:Iter w ba bw a R)(i:Nat)(hi:i<16):w.cell? ⟨bw,i,none⟩=some (.int .u64 (word R i:Int)):=by
 rw[cell_of_row w bw _ _ _ _ h.row,List.getElem?_toArray];exact nk R i hi
theorem Iter.af0{w:World}{ba bw a:Nat}{R:List Nat}(h:Iter w ba bw a R)(i:Nat):w.frozen? ⟨bw,i,none⟩=false:=frozen_of_row w bw i _ _ h.row
theorem wN{w:World}{b:Nat}{u:Value}{t:TypeId}(h:w.heap[b]? =some (.cells #[u] t (0,0)))(v:Value):(w.setCell ⟨b,0,none⟩ v).heap[b]? =some (.cells #[v] t (0,0)):=by
 have:=heap_setCell_same w b 0 #[u] t v h
 simpa using this
theorem Iter.next{w:World}{ba bw a:Nat}{R:List Nat}(h:Iter w ba bw a R)(ha:a<16)(h0:word R a=0):Iter (w.setCell ⟨ba,0,none⟩ (.int .i64 ((a:Int)+1))) ba bw (a+1) R:=
 ⟨h.good,wN h.at_ _,(Below.heap_setCell _ _ _ _ (fun e=>h.ne e.symm)).trans h.row,h.ne,ha,fun i hi=>by
  by_cases e:i=a
  ·rw[e];exact h0
  ·exact h.low i (by omega)⟩
theorem Iter.least{w:World}{ba bw a n:Nat}{r:List Nat}(h:Iter w ba bw a (n::r))(h0:word (n::r) a≠0):a=n/64:=by
 have h1:=(vH h.good).1
 by_cases e:a<n/64
 ·exact absurd (VT h.good a e) h0
 ·by_cases e2:n/64<a
  ·exact absurd (h.low _ e2) h1
  ·omega
theorem Iter.done{w:World}{ba bw:Nat}{R:List Nat}(h:Iter w ba bw 16 R):R=[]:=by
 cases R with
 |nil=>rfl
 |cons n r=>
  have h1:=(vH h.good).1
  have h2:=h.good.top n (by simp)
  exact absurd (h.low (n/64) (by omega)) h1
theorem Iter.take{w:World}{ba bw a n:Nat}{r:List Nat}(h:Iter w ba bw a (n::r))(ha:a=n/64)(m:Nat)(x:Nat)(hx:word r a=x):Iter ((w.setCell ⟨bw,a,none⟩ (.int .u64 (x:Int))).drewN m) ba bw a r:=by
 have h16:a<16:=by have:=h.good.top n (by simp);omega
 refine⟨h.good.tail,(Below.heap_setCell _ _ _ _ h.ne).trans h.at_,?_,h.ne,h.top,fun i hi=>?_⟩
 ·have:=heap_setCell_same w bw a (dL (n::r)).toArray 229 (.int .u64 (x:Int)) h.row
  refine Eq.trans this ?_
  rw[List.setIfInBounds_toArray,Fh (n::r) r a x hx (fun i hi=>(Fa i (by omega)))]
 ·rw[Fa (n:=n) i (by omega)];exact h.low i hi
def acT(w:World)(b:Nat):Nat:=match w.cell? ⟨b,0,none⟩with|some v=>(intOf v).toNat|none=>0
theorem Po{w:World}{b:Nat}{k:Int}(h:w.cell? ⟨b,0,none⟩=some (.int .i64 k)):acT w b=k.toNat:=by simp[acT,h,intOf]
def Kk:List Nat→Int×Bool×List Nat
 |[]=>(0,false,[])
 |n::r=>(n,true,r)
def V9(w:World)(ba bw:Nat)(R:List Nat)(e:Ending)(w':World):Prop:=e= .returned (.tuple #[.int .i64 (Kk R).1, .bool (Kk R).2.1])∧(∃a,Iter w' ba bw a (Kk R).2.2)∧Two w w' ba bw
set_option maxHeartbeats 2000000 in
theorem Pp(ba bw a0:Nat)(R:List Nat)(w:World)(h:Iter w ba bw a0 R)(hT:jm w)(hq1:2≠ba)(hq2:2≠bw):
  Calls Tryz.prog 244 #[.pointer (some ⟨ba,0,none⟩), .pointer (some ⟨bw,0,none⟩)] w (V9 w ba bw R):=by
 have H:=Lib.hid h
 have HT:=Lib.hid hT
 clear h hT
 go_enter Tryz.func244,Tryz.ntmps244
 go_wp2_with fail
 go_loopw [] (fun wr=>∃a,Iter wr ba bw a R∧Two w wr ba bw) (fun wr=>16-acT wr ba)
 case atStart=>exact⟨a0,H.out,Two.refl _ _ _⟩
 case round=>
  obtain⟨a,hi,ht⟩:=hrel
  have I:=Lib.hid hi
  have T:=Lib.hid ht
  have ca:=hi.Pn
  have fa:=hi.abv
  have htop:=hi.top
  clear hi ht
  by_cases hlt:a<16
  ·have cw:=I.out.cellW a hlt
   have fw:=I.out.af0 a
   by_cases h0:word R a=0
   ·have N:=Lib.hid (I.out.next hlt h0)
    rw[h0]at cw
    have M:=Lib.hid (Po ca)
    clear h0
    go_wp2
    go_roundw
    case rel=>exact⟨a+1,N.out,T.out.trans (Two.first (grownBy_setCell _ _ _ _) _)⟩
    case measure=>rw[M.out,Po N.out.Pn];omega
   ·cases R with
    |nil=>exact absurd (Ke a) h0
    |cons n r=>
     have ha:=I.out.least h0
     obtain⟨l1,l2,l3⟩:=vH I.out.good
     rw[←ha]at l1 l2 l3
     have hx:=word_lt (n::r) a
     have TK:Hid (∀m,Iter ((wr.setCell ⟨bw,a,none⟩ (.int .u64 (word r a:Int))).drewN m) ba bw a r):=Lib.hid fun m=>I.out.take ha m _ rfl
     have hy:=word_lt r a
     have HA:Hid (64*a+n%64=n):=Lib.hid (by omega)
     have hn:n<1024:=I.out.good.top n (by simp)
     have hj:n%64<64:=Nat.mod_lt _ (by decide)
     generalize n%64=j at l2 HA hj
     generalize word (n::r) a=x at h0 cw l1 l2 l3 hx
     generalize word r a=y at l3 TK hy
     have P:=Lib.hid (fun W (hW:jm W)=>aeZ x hx h0 W hW)
     rw[l2]at P
     have hne:((x:Int)==0)=false:=by simp;omega
     have hsub:IntKind.u64.wrap ((x:Int)-1)=((x-1:Nat):Int):=by rw[IntKind.wrap_u64];omega
     have hand:bits BinOp.and IntKind.u64 (x:Int) ((x-1:Nat):Int)=(y:Int):=by rw[bits_and_u64_nat x (x-1) hx (by omega),l3]
     have LQ:Hid (jm (wr.setCell ⟨bw,a,none⟩ (.int .u64 (y:Int)))):=Lib.hid ((HT.out.of_block (T.out.block _ HT.out.lt hq1 hq2)).of_block (Below.heap_setCell _ _ _ _ hq2))
     have ca2:(wr.setCell ⟨bw,a,none⟩ (.int .u64 (y:Int))).cell? ⟨ba,0,none⟩=some (.int .i64 (a:Int)):=(TK.out 0).Pn
     generalize x-1=x1 at hsub hand
     clear l1 l2 l3 h0 ha hx
     go_wp2_with fail
     go_quiet ((go_at_call 245;exact Calls.quiet_of_same (P.out _ LQ.out)))
     go_wp2
     go_ret2
     exact⟨by show Ending.returned (.tuple #[.int .i64 (64*(a:Int)+(j:Int)), .bool true])= _;rw[show 64*(a:Int)+(j:Int)=(n:Int) by have:=HA.out;omega];rfl,⟨a,TK.out nq⟩,(T.out.trans (Two.second (grownBy_setCell _ _ _ _) _)).heap rfl rfl rfl rfl⟩
  ·obtain rfl:a=16:=by omega
   have hR:=I.out.done
   subst hR
   go_wp2
   go_ret2
   exact⟨rfl,⟨16,I.out⟩,T.out⟩
end
section
theorem ZP:(Tryz.prog.info? 229).map (fun i=>(i.zero,i.size))=some (some (.agg (dL []).toArray),16):=by kernel_rfl
theorem ZQ(w:World):(zeroValue 229).run Tryz.prog w= .ok (.agg (dL []).toArray) w:=(zero_of_info ZP).1 w
theorem NI{w:World}{b:Nat}{K L:List Nat}{t:TypeId}(hg:w.heap[b]? =some (.cells (dL K).toArray t (0,0))):
  (Instr.storeAt 229 (.pointer (some ⟨b,0,none⟩)) (.agg (dL L).toArray)).run Tryz.prog w= .ok () (w.setRow b (dL L).toArray):=by
 have:=run_storeCells_at Tryz.prog b 0 t (dL L) 0 (dL K).toArray w hg (by simp[bK]) (fun v hv=>by
  obtain⟨x,_,rfl⟩:=List.mem_map.1 hv;rfl)
 have e:((dL K).toArray.toList.take (0+0)++dL L++(dL K).toArray.toList.drop (0+0+(dL L).length)).toArray=(dL L).toArray:=by
  simp[bK,List.drop_eq_nil_of_le]
 rw[e]at this
 have hi:=Ip
 cases hq:Tryz.prog.info? 229 with
 |none=>simp[hq]at hi
 |some i=>
  have hs:i.size=16:=by simpa[hq]using hi
  simp[Instr.storeAt,Instr.sureAddr,storeVar,Sem.run_bind,sizeOf,typeInfo,hq,hs,Value.cells,this,bK]
theorem wO{ops:Array Oper}{rest:List Oper}{op:Oper}{a:Act}{w:World}{Q:Exit→Act→World→Prop}(hgd:op.guard=none)(x y:Operand)(ho:op.op= .store 229 x y)(b:Nat)(K L:List Nat)(t:TypeId)(hx:a.eval x= .pointer (some ⟨b,0,none⟩))(hy:a.eval y= .agg (dL L).toArray)(hg:w.heap[b]? =some (.cells (dL K).toArray t (0,0)))
  (h:wpList Tryz.prog ops Q rest (a.put op.dst undef) (w.setRow b (dL L).toArray)):wpList Tryz.prog ops Q (op::rest) a w:=
 wpList_plain hgd fun _ hK=>by
  unfold Oper.wp execOp
  simp only[ho,hx,hy,Sem.run_bind,NI hg,Result.andThen_ok]
  exact hK _ _ h
theorem Pq(w:World)(cs:Array Value)(u:Value)(t1 t2:TypeId):((w.alloc (.cells cs t1)).alloc (.cells #[u] t2)).heap[w.heap.size]? =some (.cells cs t1 (0,0)):=heap_alloc2_old _ _ _
theorem NJ(w:World)(L:List Nat)(h:Good L):∃w3,w3=(((w.alloc (.cells (dL []).toArray 229)).alloc (.cells #[.int .i64 0] 3)).setRow w.heap.size (dL L).toArray)∧Iter w3 (w.heap.size+1) w.heap.size 0 L∧Below w.heap.size w w3:=by
 refine⟨_,rfl,⟨h,?_,setRow_heap _ _ _ _ _ _ (Pq w _ _ _ _),by omega,Nat.zero_le _,fun i hi=>absurd hi (Nat.not_lt_zero _)⟩,below_setRow (ak _ _ _) (Nat.le_refl _) _⟩
 rw[setRow_other _ _ _ _ (by omega)]
 exact heap_alloc2_new _ _ _
def Wd(w:World)(L:List Nat)(e:Ending)(w':World):Prop:=∃ba bw,e= .returned (.func (.func 244) #[] #[.pointer (some ⟨ba,0,none⟩), .pointer (some ⟨bw,0,none⟩)])∧Iter w' ba bw 0 L∧Below w.heap.size w w'∧w.heap.size≤ba∧w.heap.size≤bw
set_option maxHeartbeats 1000000 in
theorem Fq(b:Nat)(L:List Nat)(w:World)(h:dW w b L):Calls Tryz.prog 235 #[.pointer (some ⟨b,0,none⟩)] w (Wd w L):=by
 have pE:∀(fn:Fn) (first cap:Array Value) (w:World),(Instr.makeFunc fn first cap).run Tryz.prog w= .ok (.func fn first cap) w:=fun _ _ _ _=>rfl
 have hz:=ZQ
 have H:=Lib.hid h
 obtain⟨d,hu,hd⟩:=Kj
 have HU:=Lib.hid hu
 have HS:=Lib.hid Ip
 clear h hu
 go_enter Tryz.func235,Tryz.ntmps235
 go_wp2_with(first
  |(go_at_call 233;refine(kJ b true _ H.out.made).mono ?_;rintro e w' ⟨rfl,rfl⟩)
  |(refine wpList_load_mid rfl 229 (.tmp 10) rfl b 0 rfl (dL L) d H.out.range HU.out hd (by rw[bK];exact HS.out) ?_)
  |(refine wO rfl (.tmp 3) (.tmp 11) rfl w.heap.size [] L 229 rfl rfl (Pq w (dL []).toArray (.int .i64 0) 229 3) ?_;obtain⟨w3,hw3,hI,hB⟩:=NJ w L H.out.good;rw[←hw3];have I:=Lib.hid hI;have B:=Lib.hid hB;have ca:=hI.Pn;have fa:=hI.abv;clear hI hB hw3))
 go_ret
 exact⟨_,_,rfl,⟨I.out.good,wN I.out.at_ _,(Below.heap_setCell _ _ _ _ (fun e=>I.out.ne e.symm)).trans I.out.row,I.out.ne,I.out.top,I.out.low⟩,B.out.setCell (by simp) _,by omega,Nat.le_refl _⟩
end
section
def takeA:List Nat→Int×Int×List Nat
 |[]=>(0,4,[])
 |n::r=>(n,0,r)
theorem Turn.ahead{w w1 w':World}{b:Nat}{L:List Nat}(hb:Below w.heap.size w w1)(h:Turn w1 w' b L):Turn w w' b L:=⟨h.st,grownBy_trans (aP hb _) h.grown⟩
theorem RZ(b n:Nat)(r:List Nat)(w:World)(h:dW w b (n::r)):Calls Tryz.prog 236 #[.pointer (some ⟨b,0,none⟩), .int .i64 (n:Int)] w fun e w'=>e= .returned (.int .i64 0)∧Turn w w' b r:=by
 have:=VZ b (n::r) n w h
 have hn:=h.good.top n (by simp)
 have h1:wK (n:Int)=true:=(pR _).2 (by omega)
 rwa [show wL (n::r) (n:Int)=0 by simp[wL,h1],show wM (n::r) (n:Int)=r by simp[wM,h1,Kc h.good]]at this
set_option maxHeartbeats 1000000 in
theorem Pv(b:Nat)(L:List Nat)(w:World)(h:dW w b L)(hT:jm w):Calls Tryz.prog 221 #[.pointer (some ⟨b,0,none⟩)] w fun e w'=>e= .returned (.tuple #[.int .i64 (takeA L).1, .int .i64 (takeA L).2.1])∧Turn w w' b (takeA L).2.2:=by
 have H:=Lib.hid h
 have HT:=Lib.hid hT
 clear h hT
 have hlt:=HT.out.lt
 cases L with
 | nil=>
  go_enter Tryz.func221,Tryz.ntmps221
  go_wp2_with(first
   |(go_at_call 233;refine(kJ b true _ H.out.made).mono ?_;rintro e w' ⟨rfl,rfl⟩)
   |(go_at_call 235;refine(Fq b [] _ H.out).mono ?_;rintro e w1 ⟨ba,bw,rfl,hI,hB,h1,h2⟩;have I:=Lib.hid hI;have B:=Lib.hid hB;clear hI hB)
   |(go_at_call 244;refine(Pp ba bw 0 [] _ I.out (HT.out.below B.out) (by omega) (by omega)).mono ?_;rintro e w2 ⟨rfl,_,ht⟩;have B2:=Lib.hid (B.out.trans (ht.below B.out.size h1 h2));clear ht;simp only[Kk]))
  go_ret2
  exact⟨rfl,Turn.stay H.out B2.out⟩
 | cons n r=>
  go_enter Tryz.func221,Tryz.ntmps221
  go_wp2_with(first
   |(go_at_call 233;refine(kJ b true _ H.out.made).mono ?_;rintro e w' ⟨rfl,rfl⟩)
   |(go_at_call 235;refine(Fq b (n::r) _ H.out).mono ?_;rintro e w1 ⟨ba,bw,rfl,hI,hB,h1,h2⟩;have I:=Lib.hid hI;have B:=Lib.hid hB;clear hI hB)
   |(go_at_call 244;refine(Pp ba bw 0 (n::r) _ I.out (HT.out.below B.out) (by omega) (by omega)).mono ?_;rintro e w2 ⟨rfl,_,ht⟩;have B2:=Lib.hid (B.out.trans (ht.below B.out.size h1 h2));clear ht;simp only[Kk])
   |(go_at_call 236;refine(RZ b n r _ (H.out.below B2.out)).mono ?_;rintro e w3 ⟨rfl,ht⟩;have T:=Lib.hid (Turn.ahead B2.out ht);clear ht))
  go_ret2
  exact⟨rfl,T.out⟩
def zG(L:List Nat):List Value:=L.map fun(n:Nat)=> .int .i64 (n:Int)
theorem NK(L:List Nat)(n:Nat):zG (L++[n])=zG L++[.int .i64 (n:Int)]:=by simp[zG]
theorem Wi:(Tryz.prog.info? 3).map (fun i=>(i.zero,i.size,i.bytes))=some (some (.int .i64 0),1,8):=by kernel_rfl
theorem ZT(w:World)(u:Value)(t:TypeId):∀(j:Nat) (x:Value),[u][j]? =some x→(w.alloc (.cells #[u] t)).cell? ((⟨w.heap.size,0,none⟩:Addr).add j)=some x:=fun j x hx=>by
 rw[Addr.add_mid,cell_of_row _ _ _ _ _ _ (heap_alloc_new w _)]
 match j,hx with
 |0,hx=>exact hx
 |j+1,hx=>simp at hx
end
section
def span(n k:Nat):List Nat:=List.range' n k
theorem jo(n k m:Nat):m∈span n k↔n≤m∧m<n+k:=by simp[span,List.mem_range'_1]
theorem ZU(n k:Nat):(span n k).Pairwise (· < ·):=by
 unfold span
 exact List.pairwise_lt_range' ..
theorem Kl:∀(L:List Nat) (n:Nat),(∀m∈L,m<n)→ins L n=L++[n]
 |[],_,_=>rfl
 |k::r,n,h=>by
  have h1:=h k (by simp)
  rw[ins,if_neg (by omega),Kl r n (fun m hm=>h m (by simp[hm]))]
  rfl
theorem Wj(n k:Nat):ins (span n k) (n+k)=span n (k+1):=by
 rw[Kl _ _ (fun m hm=>((jo n k m).1 hm).2)]
 simp[span,List.range'_concat]
theorem R9:(Tryz.prog.built 231 [(1, .bool true)])=some (xW [] true):=by kernel_rfl
theorem xX{ops:Array Oper}{rest:List Oper}{op:Oper}{a:Act}{w:World}{Q:Exit→Act→World→Prop}(hgd:op.guard=none)(ho:op.op= .build 231 #[(1, .const (.bool true))])
  (h:wpList Tryz.prog ops Q rest (a.put op.dst (.agg (xW [] true))) w):wpList Tryz.prog ops Q (op::rest) a w:=by
 have hb:=R9
 have e:(Array.map (fun(p:Nat×Operand)=>(p.1,a.eval p.2)) #[(1, .const (.bool true))]).toList=[(1, .bool true)]:=by simp[go_sem]
 refine wpList_build hgd 231 _ ho (by rw[e,hb];rfl) ?_
 rw[e,hb]
 exact h
theorem Wm(b n k:Nat)(w:World)(h:dW w b (span n k))(hk:n+k<1024):Calls Tryz.prog 177 #[.pointer (some ⟨b,0,none⟩), .int .i64 ((n:Int)+(k:Int))] w fun e w'=>e= .returned (.int .i64 0)∧Turn w w' b (span n (k+1)):=by
 have:=Pm b (span n k) ((n:Int)+(k:Int)) w h
 have h1:wK ((n:Int)+(k:Int))=true:=(pR _).2 (by omega)
 have h2:((n:Int)+(k:Int)).toNat=n+k:=by omega
 have h3:¬n+k∈span n k:=by rw[jo];omega
 rwa [show BJ (span n k) ((n:Int)+(k:Int))=0 by simp[BJ,h1,h2,h3],show BK (span n k) ((n:Int)+(k:Int))=span n (k+1) by simp[BK,h1,h2,h3,Wj]]at this
def acU(w:World)(L:List Nat)(e:Ending)(w':World):Prop:=∃b,e= .returned (.tuple #[.pointer (some ⟨b,0,none⟩), .int .i64 0])∧dW w' b L∧w.heap.size≤b∧Below w.heap.size w w'
set_option maxHeartbeats 1000000 in
theorem ZW(n m:Nat)(w:World)(hn:n<1024)(h:n+m≤1024):Calls Tryz.prog 123 #[.int .i64 n, .int .i64 m] w (acU w (span n m)):=by
 have N:Hid (wK (n:Int)=true):=Lib.hid ((pR _).2 (by omega))
 have d1:decide ((m:Int)<0)=false:=decide_eq_false (by omega)
 have d2:decide (1024-(n:Int)<(m:Int))=false:=decide_eq_false (by omega)
 go_enter Tryz.func123,Tryz.ntmps123
 go_wp2_with(first
  |(go_at_call 176;refine(sP n true N.out _).mono ?_;rintro e w' ⟨rfl,rfl⟩)
  |(refine xX rfl rfl ?_))
 obtain⟨w1,hw1⟩:∃w1,w1=w.alloc (.cells (xW [] true) 231):=⟨_,rfl⟩
 have S1:Hid (dW w1 w.heap.size (span n 0)):=Lib.hid ⟨Good.nil,by rw[hw1];exact heap_alloc_new w _⟩
 have B1:Hid (Below w.heap.size w w1):=Lib.hid (by rw[hw1];exact(Below.refl _ _).alloc (Nat.le_refl _) _)
 rw[←hw1]
 clear hw1
 go_loopw [24] (fun i wr=>∃k:Nat,i= .int .i64 (k:Int)∧k≤m∧dW wr w.heap.size (span n k)∧Below w.heap.size w wr) (fun i _=>m-(intOf i).toNat)
 case atStart=>exact⟨0,rfl,Nat.zero_le _,S1.out,B1.out⟩
 case round=>
  obtain⟨k,rfl,hk,hs,hb⟩:=hrel
  have S:=Lib.hid hs
  have B:=Lib.hid hb
  clear hs hb
  by_cases hlt:k<m
  ·have P:=Lib.hid (Wm w.heap.size n k wr S.out (by omega))
   go_wp2_with(go_at_call 177;refine P.out.mono ?_;rintro e w2 ⟨rfl,ht⟩;have T:=Lib.hid ht;clear ht)
   go_roundw
   case rel=>exact⟨k+1,by go_num,by omega,T.out.st,Turn.below B.out T.out B.out.size (Nat.le_refl _)⟩
   case measure=>simp[intOf];omega
  ·obtain rfl:k=m:=by omega
   go_wp2
   go_ret2
   exact⟨_,rfl,S.out,Nat.le_refl _,B.out⟩
end
end Go.Proofs.YtammlljefhakmaaGreatDoor
