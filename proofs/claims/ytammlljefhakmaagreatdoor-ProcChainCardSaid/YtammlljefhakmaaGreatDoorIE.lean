/- Helps of the proof. No condition. -/
import Derived.Test.YtammlljefhakmaaGreatDoorGD8
import Derived.Deep.RegionHeld3
import Derived.Deep.MidRow
import Derived.Laws.CopyOwn
namespace Go.Proofs.YtammlljefhakmaaGreatDoor
open Go.RowKit
set_option maxRecDepth 100000
section
structure j3(W w:World)(cb wb k:Nat)(L:List Int):Prop where
 below:Below W.heap.size W w
 box:w.heap[cb]? =some (.cells #[.slice (some ⟨wb,0,none⟩) 10 10, .int .i64 k] 311 (0,0))
 row:w.heap[wb]? =some (.cells (ah L) 25 (0,0))
 len:L.length=10
 ne:cb≠wb
 lc:W.heap.size≤cb
 lw:W.heap.size≤wb
theorem j3.c0{W w:World}{cb wb k:Nat}{L:List Int}(h:j3 W w cb wb k L):w.cell? ⟨cb,0,none⟩=some (.slice (some ⟨wb,0,none⟩) 10 10):=by
 rw[cell_of_row w cb 0 _ _ _ h.box];rfl
theorem j3.c1{W w:World}{cb wb k:Nat}{L:List Int}(h:j3 W w cb wb k L):w.cell? ⟨cb,1,none⟩=some (.int .i64 k):=by
 rw[cell_of_row w cb 1 _ _ _ h.box];rfl
theorem j3.fr{W w:World}{cb wb k:Nat}{L:List Int}(h:j3 W w cb wb k L)(i:Nat):w.frozen? ⟨cb,i,none⟩=false:=frozen_of_row w cb i _ _ h.box
theorem j3.cw{W w:World}{cb wb k:Nat}{L:List Int}(h:j3 W w cb wb k L)(i:Nat)(hi:i<10):w.cell? ⟨wb,i,none⟩=some (.int .u32 (L.getD i 0)):=by
 rw[cell_of_row w wb _ _ _ _ h.row]
 exact jD L _ (by rw[h.len];omega)
theorem j3.fw{W w:World}{cb wb k:Nat}{L:List Int}(h:j3 W w cb wb k L)(i:Nat):w.frozen? ⟨wb,i,none⟩=false:=frozen_of_row w wb i _ _ h.row
theorem j3.set{W w:World}{cb wb k:Nat}{L:List Int}(h:j3 W w cb wb k L)(v:Int):j3 W ((w.setCell ⟨wb,k,none⟩ (.int .u32 v)).drew.setCell ⟨cb,1,none⟩ (.int .i64 (k+1:Nat))) cb wb (k+1) (L.set k v):=by
 have h1:=heap_setCell_same w wb k _ _ (.int .u32 v) h.row
 rw[vg]at h1
 have hb1:(w.setCell ⟨wb,k,none⟩ (.int .u32 v)).drew.heap[cb]? =some (.cells #[.slice (some ⟨wb,0,none⟩) 10 10, .int .i64 k] 311 (0,0)):=by
  show(w.setCell ⟨wb,k,none⟩ (.int .u32 v)).heap[cb]? = _
  rw[Below.heap_setCell _ _ _ _ h.ne]
  exact h.box
 refine⟨?_,heap_setCell_same _ cb 1 _ _ _ hb1,?_,by rw[List.length_set];exact h.len,h.ne,h.lc,h.lw⟩
 ·exact((h.below.setCell (p:=⟨wb,k,none⟩) h.lw _).drew).setCell (p:=⟨cb,1,none⟩) h.lc _
 ·rw[Below.heap_setCell _ _ _ _ (fun e=>h.ne e.symm)]
  exact h1
set_option maxHeartbeats 800000 in
theorem Jd(W:World)(cb wb k:Nat)(L:List Int)(v:Int)(w:World)(h:j3 W w cb wb k L)(hk:k<10):
  Calls Tryz.prog 232 #[.pointer (some ⟨cb,0,none⟩), .int .u32 v] w fun e w'=>e= .returned (.tuple #[])∧j3 W w' cb wb (k+1) (L.set k v):=by
 have H:=Lib.hid h
 have hne:=h.ne
 have c0:=h.c0
 have c1:=h.c1
 have f1:=h.fr 1
 have cw:=h.cw k hk
 have fw:=h.fw k
 have hk':(k:Int)<10:=by omega
 clear h
 go_enter Tryz.func232,Tryz.ntmps232
 go_wp2
 go_still_tail 10,(by kernel_rfl)
 go_wp2
 go_end0
 exact⟨rfl,H.out.set v⟩
end
section
theorem Gv:∃d,Tryz.prog.underlying 174=some d∧d.isRow=true:=⟨_,Tryz.underlying174,rfl⟩
theorem Mf:(Tryz.prog.info? 174).map (fun i=>(i.zero,i.size))=some (some (.agg (ah (List.replicate 10 0))),10):=by kernel_rfl
theorem Yc(w:World):(zeroValue 174).run Tryz.prog w= .ok (.agg (ah (List.replicate 10 0))) w:=(zero_of_info Mf).1 w
theorem Dr:(Tryz.prog.info? 174).map (·.size)=some 10:=(zero_of_info Mf).2
theorem Uf:∃d,Tryz.prog.underlying 46=some d∧d.isRow=true:=⟨_,Tryz.underlying46,rfl⟩
theorem Mh:(Tryz.prog.info? 46).map (fun i=>(i.zero,i.size))=some (some (.agg (ah (List.replicate 8 0))),8):=by kernel_rfl
theorem Yd(w:World):(zeroValue 46).run Tryz.prog w= .ok (.agg (ah (List.replicate 8 0))) w:=(zero_of_info Mh).1 w
theorem Ye:(Tryz.prog.info? 46).map (·.size)=some 8:=(zero_of_info Mh).2
theorem aaT(R:List Int)(hR:R.length=8)(k:Nat)(hk:k<8)(w:World):(Instr.index 46 (.agg (ah R)) (.int .i64 k)).run Tryz.prog w= .ok (.int .u32 (R.getD k 0)) w:=by
 have hk':(k:Int)<8:=by omega
 match R,hR,k,hk with
 |[a0,a1,a2,a3,a4,a5,a6,a7],_,0,_=>simp[Instr.index,run_underlying Tryz.underlying46,asIntOf,go_sem,ah]
 |[a0,a1,a2,a3,a4,a5,a6,a7],_,1,_=>simp[Instr.index,run_underlying Tryz.underlying46,asIntOf,go_sem,ah]
 |[a0,a1,a2,a3,a4,a5,a6,a7],_,2,_=>simp[Instr.index,run_underlying Tryz.underlying46,asIntOf,go_sem,ah]
 |[a0,a1,a2,a3,a4,a5,a6,a7],_,3,_=>simp[Instr.index,run_underlying Tryz.underlying46,asIntOf,go_sem,ah]
 |[a0,a1,a2,a3,a4,a5,a6,a7],_,4,_=>simp[Instr.index,run_underlying Tryz.underlying46,asIntOf,go_sem,ah]
 |[a0,a1,a2,a3,a4,a5,a6,a7],_,5,_=>simp[Instr.index,run_underlying Tryz.underlying46,asIntOf,go_sem,ah]
 |[a0,a1,a2,a3,a4,a5,a6,a7],_,6,_=>simp[Instr.index,run_underlying Tryz.underlying46,asIntOf,go_sem,ah]
 |[a0,a1,a2,a3,a4,a5,a6,a7],_,7,_=>simp[Instr.index,run_underlying Tryz.underlying46,asIntOf,go_sem,ah]
section
variable {ops:Array Oper} {rest:List Oper} {op:Oper} {a:Act} {w:World} {Q:Exit→Act→World→Prop}
theorem qp(hgd:op.guard=none)(x:Operand)(ho:op.op= .load 46 x)(b:Nat)(T:List Int)(t:TypeId)(hx:a.eval x= .pointer (some ⟨b,0,none⟩))(hg:w.heap[b]? =some (.cells (ah T) t (0,0)))(hT:T.length=10)
  (h:wpList Tryz.prog ops Q rest (a.put op.dst (.agg (ah (T.take 8)))) w):wpList Tryz.prog ops Q (op::rest) a w:=by
 obtain⟨d,h1,h2⟩:=Uf
 refine wpList_load_mid hgd 46 x ho b 0 hx ((T.take 8).map (Value.int .u32)) d (fun j v hv=>?_) h1 h2 (by rw[Ye];simp[hT]) h
 rw[cell_of_row w b _ _ _ _ hg,Nat.zero_add]
 have hj:j<8:=by have:=(List.getElem?_eq_some_iff.1 hv).1;simp[hT]at this;exact this
 rw[←hv]
 simp[ah,hj]
theorem yT(hgd:op.guard=none)(x:Operand)(ho:op.op= .load 174 x)(b:Nat)(T:List Int)(t:TypeId)(hx:a.eval x= .pointer (some ⟨b,0,none⟩))(hg:w.heap[b]? =some (.cells (ah T) t (0,0)))(hT:T.length=10)
  (h:wpList Tryz.prog ops Q rest (a.put op.dst (.agg (ah T))) w):wpList Tryz.prog ops Q (op::rest) a w:=by
 obtain⟨d,h1,h2⟩:=Gv
 refine wpList_load_row hgd 174 x ho b hx t (ah T) (0,0) d hg h1 ?_ (by rw[Dr,dw,hT]) h
 cases d<;>simp_all
theorem oP(hgd:op.guard=none)(x y:Operand)(ho:op.op= .store 174 x y)(b:Nat)(T R:List Int)(t:TypeId)(hx:a.eval x= .pointer (some ⟨b,0,none⟩))(hy:a.eval y= .agg (ah R))(hg:w.heap[b]? =some (.cells (ah T) t (0,0)))(hT:T.length=10)(hR:R.length=10)
  (h:wpList Tryz.prog ops Q rest (a.put op.dst undef) (w.setRow b (ah R))):wpList Tryz.prog ops Q (op::rest) a w:=
 wpList_store_row hgd 174 x y ho b (ah R) hx hy t (ah T) hg (by rw[Dr,dw,hR]) (by rw[dw,dw,hT,hR]) (fJ R) h
end
theorem Yf(w:World):(Instr.makeSlice 87 (.int .i64 10) (.int .i64 10)).run Tryz.prog w= .ok (.slice (some ⟨w.heap.size,0,none⟩) 10 10) (w.alloc (.cells (ah (List.replicate 10 0)) 25)):=Nt 10 (by decide) w
theorem putting(T:List Int)(hT:T.length=10)(k:Nat)(hk:k<10):(T.take k++List.replicate (10-k) 0).set k (T.getD k 0)=T.take (k+1)++List.replicate (10-(k+1)) 0:=by
 match T,hT,k,hk with
 |[a0,a1,a2,a3,a4,a5,a6,a7,a8,a9],_,0,_=>rfl
 |[a0,a1,a2,a3,a4,a5,a6,a7,a8,a9],_,1,_=>rfl
 |[a0,a1,a2,a3,a4,a5,a6,a7,a8,a9],_,2,_=>rfl
 |[a0,a1,a2,a3,a4,a5,a6,a7,a8,a9],_,3,_=>rfl
 |[a0,a1,a2,a3,a4,a5,a6,a7,a8,a9],_,4,_=>rfl
 |[a0,a1,a2,a3,a4,a5,a6,a7,a8,a9],_,5,_=>rfl
 |[a0,a1,a2,a3,a4,a5,a6,a7,a8,a9],_,6,_=>rfl
 |[a0,a1,a2,a3,a4,a5,a6,a7,a8,a9],_,7,_=>rfl
 |[a0,a1,a2,a3,a4,a5,a6,a7,a8,a9],_,8,_=>rfl
 |[a0,a1,a2,a3,a4,a5,a6,a7,a8,a9],_,9,_=>rfl
theorem qY(T:List Int)(k:Nat)(hk:k<8):(T.take 8).getD k 0=T.getD k 0:=by
 simp[List.getD_eq_getElem?_getD,hk]
theorem j3.start(w:World)(T:List Int):j3 w ((w.alloc (.cells (ah [0,0,0,0,0,0,0,0,0,0]) 25)).alloc (.cells #[.slice (some ⟨w.heap.size,0,none⟩) 10 10, .int .i64 0] 311)) (w.heap.size+1) w.heap.size 0 (T.take 0++List.replicate (10-0) 0):=
 ⟨ak _ _ _,heap_alloc2_new _ _ _,heap_alloc2_old _ _ _,rfl,by omega,by omega,Nat.le_refl _⟩
theorem adQ(w:World)(o p q:Obj):(((w.alloc o).alloc p).alloc q).heap[w.heap.size]? =some o:=by
 rw[heap_alloc_old _ _ (by simp;omega),heap_alloc_old _ _ (by simp)]
 exact heap_alloc_new w o
def Yg(W:World)(cb wb:Nat)(T:List Int)(i:Value)(wr:World):Prop:=∃k:Nat,i= .int .i64 k∧k≤8∧j3 W wr cb wb k (T.take k++List.replicate (10-k) 0)
def Ug(w:World)(T:List Int)(e:Ending)(w':World):Prop:=∃b,e= .returned (.slice (some ⟨b,0,none⟩) 10 10)∧w.heap.size≤b∧w'.heap[b]? =some (.cells (ah T) 25 (0,0))∧Below w.heap.size w w'
set_option maxHeartbeats 2000000 in
theorem Yh(T:List Int)(hT:T.length=10)(w:World):Calls Tryz.prog 213 #[.agg (ah T)] w (Ug w T):=by
 have pE:∀(fn:Fn) (first cap:Array Value) (w:World),(Instr.makeFunc fn first cap).run Tryz.prog w= .ok (.func fn first cap) w:=fun _ _ _ _=>rfl
 have hmk:=Yf
 have HT:=Lib.hid hT
 clear hT
 go_enter Tryz.func213,Tryz.ntmps213
 go_wp2_with(refine qp rfl (.tmp 10) rfl w.heap.size T 174 rfl (adQ w _ _ _) HT.out ?_)
 obtain⟨w1,hw1⟩:∃w1,w1=w.alloc (.cells (ah T) 174):=⟨_,rfl⟩
 have B1:Hid (Below w.heap.size w w1):=Lib.hid (by rw[hw1];exact(Below.refl _ _).alloc (Nat.le_refl _) _)
 have X1:Hid (w1.heap[w.heap.size]? =some (.cells (ah T) 174 (0,0))):=Lib.hid (by rw[hw1];exact heap_alloc_new w _)
 have Z1:Hid (w1.heap.size=w.heap.size+1):=Lib.hid (by rw[hw1];simp)
 rw[←hw1,←Z1.out]
 clear hw1
 obtain⟨w2,hw2⟩:∃w2,w2=(w1.alloc (.cells (ah [0,0,0,0,0,0,0,0,0,0]) 25)).alloc (.cells #[.slice (some ⟨w1.heap.size,0,none⟩) 10 10, .int .i64 0] 311):=⟨_,rfl⟩
 have C2:Hid (j3 w1 w2 (w1.heap.size+1) w1.heap.size 0 (T.take 0++List.replicate (10-0) 0)):=Lib.hid (by rw[hw2];exact j3.start w1 T)
 rw[←hw2]
 clear hw2
 obtain⟨cb,hcb⟩:∃cb,cb=w1.heap.size+1:=⟨_,rfl⟩
 obtain⟨wb,hwb⟩:∃wb,wb=w1.heap.size:=⟨_,rfl⟩
 have LW:Hid (w.heap.size≤wb):=Lib.hid (by rw[hwb,Z1.out];omega)
 rw[←hcb,←hwb]at C2
 rw[←hcb,←hwb]
 clear hcb hwb
 go_loopw [12] (fun i wr=>Yg w1 cb wb T i wr) (fun i _=>(8-(intOf i).toNat))
 case atStart=>exact⟨0,rfl,by omega,C2.out⟩
 case round=>
  obtain⟨k,rfl,hk,hC⟩:=hrel
  have C3:=Lib.hid hC
  clear hC
  by_cases hlt:k<8
  ·have hix:=aaT (T.take 8) (by rw[List.length_take,HT.out];rfl) k hlt
   rw[qY T k hlt]at hix
   go_wp2_with fail
   refine(Jd w1 cb wb k _ (T.getD k 0) wr C3.out (by omega)).mono ?_
   rintro e w3 ⟨rfl,hC⟩
   rw[putting T HT.out k (by omega)]at hC
   have C4:=Lib.hid hC
   clear hC
   go_wp2
   go_roundw
   case rel=>exact⟨k+1,by go_num,by omega,C4.out⟩
   case measure=>simp[intOf];omega
  ·obtain rfl:k=8:=by omega
   clear hlt
   have t8:wr.cell? ⟨w.heap.size,8,none⟩=some (.int .u32 (T.getD 8 0)):=by
    rw[cell_of_row wr _ _ _ _ _ (below_block C3.out.below X1.out)]
    exact jD T 8 (by rw[HT.out];decide)
   go_wp2_with fail
   refine(Jd w1 cb wb 8 _ (T.getD 8 0) wr C3.out (by omega)).mono ?_
   rintro e w3 ⟨rfl,hC⟩
   rw[putting T HT.out 8 (by omega)]at hC
   have C4:=Lib.hid hC
   clear hC t8
   have t9:w3.cell? ⟨w.heap.size,9,none⟩=some (.int .u32 (T.getD 9 0)):=by
    rw[cell_of_row w3 _ _ _ _ _ (below_block C4.out.below X1.out)]
    exact jD T 9 (by rw[HT.out];decide)
   go_wp2_with fail
   refine(Jd w1 cb wb 9 _ (T.getD 9 0) w3 C4.out (by omega)).mono ?_
   rintro e w4 ⟨rfl,hC⟩
   rw[putting T HT.out 9 (by omega)]at hC
   have C5:=Lib.hid hC
   clear hC t9
   have c0:=C5.out.c0
   go_wp2
   go_ret
   refine⟨wb,rfl,LW.out,?_,B1.out.trans (C5.out.below.mono B1.out.size)⟩
   have:=C5.out.row
   rwa [show T.take (9+1)++List.replicate (10-(9+1)) 0=T by simp[List.take_of_length_le,HT.out]]at this
end
section
def SG:List Int:=[0,0,0,0,0,0,0,0,0,0]
theorem Yi(w:World):(zeroValue 174).run Tryz.prog w= .ok (.agg (ah SG)) w:=Yc w
section
variable {ops:Array Oper} {rest:List Oper} {op:Oper} {a:Act} {w:World} {Q:Exit→Act→World→Prop}
end
section
variable {ops:Array Oper} {rest:List Oper} {op:Oper} {a:Act} {w:World} {Q:Exit→Act→World→Prop}
theorem xw(hgd:op.guard=none)(x y z:Operand)(ho:op.op= .build 174 #[(0,x),(1,y),(2,z)])(t0 t1 t2 t3 t4 t5 t6 t7 t8 t9:Int)
  (hx:a.eval x= .agg (ah [t0,t1,t2,t3,t4,t5,t6,t7]))(hy:a.eval y= .int .u32 t8)(hz:a.eval z= .int .u32 t9)
  (h:wpList Tryz.prog ops Q rest (a.put op.dst (.agg (ah [t0,t1,t2,t3,t4,t5,t6,t7,t8,t9]))) w):wpList Tryz.prog ops Q (op::rest) a w:=by
 have hb:(Tryz.prog.built 174 [(0, .agg (ah [t0,t1,t2,t3,t4,t5,t6,t7])),(1, .int .u32 t8),(2, .int .u32 t9)])=some (ah [t0,t1,t2,t3,t4,t5,t6,t7,t8,t9]):=by kernel_rfl
 have e:(Array.map (fun g:Nat×Operand=>(g.1,a.eval g.2)) #[(0,x),(1,y),(2,z)]).toList=[(0, .agg (ah [t0,t1,t2,t3,t4,t5,t6,t7])),(1, .int .u32 t8),(2, .int .u32 t9)]:=by simp[hx,hy,hz]
 refine wpList_build hgd 174 _ ho (by rw[e,hb];rfl) ?_
 rw[e,hb]
 exact h
end
theorem Uh{w:World}{b:Nat}{T:List Int}{t:TypeId}(hg:w.heap[b]? =some (.cells (ah T) t (0,0)))(hT:T.length=10):(loadVar 174 ⟨b,0,none⟩).run Tryz.prog w= .ok (.agg (ah T)) w:=by
 obtain⟨d,h1,h2⟩:=Gv
 exact run_loadVar_row w b t 174 (ah T) (0,0) d hg h1 (by cases d<;>simp_all) (by rw[Dr,dw,hT])
theorem xA{fn:Func}{p q:Tmp}(h:fn.results=#[.cell p 174, .tmp q])(tmps:Array Value)(w:World)(g:Nat)(T:List Int)(t:TypeId)(v:Value)(hp:tmps.getD p undef= .pointer (some ⟨g,0,none⟩))(hq:tmps.getD q undef=v)
  (hg:w.heap[g]? =some (.cells (ah T) t (0,0)))(hT:T.length=10):(results fn tmps).run Tryz.prog w= .ok (.tuple #[.agg (ah T),v]) w:=by
 have hp':tmps[p]?.getD undef= .pointer (some ⟨g,0,none⟩):=by simpa using hp
 have hq':tmps[q]?.getD undef=v:=by simpa using hq
 simp[results,h,hp',hq',asAddr,Uh hg hT]
def z8:List Int:=[0,0,0,0,0,0,0,0]
theorem Gw(w:World):(zeroValue 46).run Tryz.prog w= .ok (.agg (ah z8)) w:=Yd w
theorem Yj:(Tryz.prog.info? 25).map (·.size)=some 1:=by
 obtain⟨i,hi,h1,h2,h3⟩:=info_parts J8
 rw[hi,Option.map_some,h2]
set_option maxHeartbeats 2000000 in
theorem adR(b o c:Nat)(t0 t1 t2 t3 t4 t5 t6 t7 t8 t9:Int)(w:World)(hb:b<w.heap.size)(hc:∀i,i<10→w.cell? ⟨b,o+i,none⟩=some (.int .u32 ([t0,t1,t2,t3,t4,t5,t6,t7,t8,t9].getD i 0))):
  Calls Tryz.prog 166 #[.slice (some ⟨b,o,none⟩) 10 c] w fun e w'=>e= .returned (.tuple #[.agg (ah [t0,t1,t2,t3,t4,t5,t6,t7,t8,t9]), .int .i64 0])∧Below w.heap.size w w':=by
 have hz:=Yi
 have hz8:=Gw
 have HC:=Lib.hid hc
 have HB:=Lib.hid hb
 clear hc hb
 go_enter Tryz.func166,Tryz.ntmps166
 have HX:Hid (∀j v,([t0,t1,t2,t3,t4,t5,t6,t7].map (Value.int .u32))[j]? =some v→((w.alloc (.cells (ah SG) 174)).alloc (.cells (ah z8) 46)).cell? ((⟨b,o,none⟩:Addr).add j)=some v):=Lib.hid (fun j v hv=>by
  rw[Addr.add_mid,(ak w _ _).cell (p:=⟨b,o+j,none⟩) HB.out]
  match j,hv with
  |0,hv=>rw[HC.out 0 (by omega)];exact hv
  |1,hv=>rw[HC.out 1 (by omega)];exact hv
  |2,hv=>rw[HC.out 2 (by omega)];exact hv
  |3,hv=>rw[HC.out 3 (by omega)];exact hv
  |4,hv=>rw[HC.out 4 (by omega)];exact hv
  |5,hv=>rw[HC.out 5 (by omega)];exact hv
  |6,hv=>rw[HC.out 6 (by omega)];exact hv
  |7,hv=>rw[HC.out 7 (by omega)];exact hv
  |j+8,hv=>simp at hv)
 have H8:Hid ((z8.map (Value.int .u32)).length=8):=Lib.hid rfl
 go_wp2_with(refine wpList_copy_splice rfl (.tmp 9) (.tmp 10) 87 87 rfl 25 Tryz.underlying87 Yj (some ⟨w.heap.size+1,0,none⟩) (some ⟨b,o,none⟩) 8 8 10 c rfl rfl (w.heap.size+1) 0 (z8.map (Value.int .u32)) 46 (heap_alloc2_new _ _ _) ([t0,t1,t2,t3,t4,t5,t6,t7].map (Value.int .u32)) rfl (fun _=>⟨rfl,_,rfl,HX.out⟩) (Nat.le_refl _) (fun v hv=>by obtain⟨x,_,rfl⟩:=List.mem_map.1 hv;rfl) (w.heap.size+1) (w.alloc (.cells (ah SG) 174)) ((Below.refl _ _).alloc (by simp) _) (Nat.le_refl _) ?_;intro w3 HG hB)
 have R3:Hid (w3.heap[w.heap.size+1]? =some (.cells (ah [t0,t1,t2,t3,t4,t5,t6,t7]) 46 (0,0))):=Lib.hid HG.out
 have X3:Hid (w3.heap[w.heap.size]? =some (.cells (ah SG) 174 (0,0))):=Lib.hid (by
  have:=hB.block w.heap.size (by simp)
  rw[this]
  exact heap_alloc_new w _)
 have B3:Hid (Below w.heap.size w w3):=Lib.hid (((Below.refl w.heap.size w).alloc (Nat.le_refl _) (.cells (ah SG) 174)).trans (hB.mono (by simp)))
 have r:∀i,w3.cell? ⟨w.heap.size+1,i,none⟩=(ah [t0,t1,t2,t3,t4,t5,t6,t7])[i]? :=fun i=>cell_of_row w3 _ i _ _ _ R3.out
 have r0:w3.cell? ⟨w.heap.size+1,0,none⟩=some (.int .u32 t0):=r 0
 have r1:w3.cell? ⟨w.heap.size+1,1,none⟩=some (.int .u32 t1):=r 1
 have r2:w3.cell? ⟨w.heap.size+1,2,none⟩=some (.int .u32 t2):=r 2
 have r3:w3.cell? ⟨w.heap.size+1,3,none⟩=some (.int .u32 t3):=r 3
 have r4:w3.cell? ⟨w.heap.size+1,4,none⟩=some (.int .u32 t4):=r 4
 have r5:w3.cell? ⟨w.heap.size+1,5,none⟩=some (.int .u32 t5):=r 5
 have r6:w3.cell? ⟨w.heap.size+1,6,none⟩=some (.int .u32 t6):=r 6
 have r7:w3.cell? ⟨w.heap.size+1,7,none⟩=some (.int .u32 t7):=r 7
 have x8:w3.cell? ⟨b,o+8,none⟩=some (.int .u32 t8):=by rw[B3.out.cell (p:=⟨b,o+8,none⟩) HB.out];exact HC.out 8 (by omega)
 have x9:w3.cell? ⟨b,o+9,none⟩=some (.int .u32 t9):=by rw[B3.out.cell (p:=⟨b,o+9,none⟩) HB.out];exact HC.out 9 (by omega)
 clear HG hB r
 go_still_tail 7,(by kernel_rfl)
 change wpList _ _ _ _ _ w3.drew
 have X4:Hid (w3.drew.heap[w.heap.size]? =some (.cells (ah SG) 174 (0,0))):=Lib.hid X3.out
 have B4:Hid (Below w.heap.size w w3.drew):=Lib.hid B3.out.drew
 generalize w3.drew=w4 at*
 clear r0 r1 r2 r3 r4 r5 r6 r7 x8 x9 X3 B3 R3 HX HC
 refine xw rfl (.tmp 12) (.tmp 15) (.tmp 18) rfl t0 t1 t2 t3 t4 t5 t6 t7 t8 t9 rfl rfl rfl ?_
 refine oP rfl (.tmp 2) (.tmp 19) rfl w.heap.size SG [t0,t1,t2,t3,t4,t5,t6,t7,t8,t9] 174 rfl rfl X4.out rfl rfl ?_
 have X5:Hid ((w4.setRow w.heap.size (ah [t0,t1,t2,t3,t4,t5,t6,t7,t8,t9])).heap[w.heap.size]? =some (.cells (ah [t0,t1,t2,t3,t4,t5,t6,t7,t8,t9]) 174 (0,0))):=Lib.hid (setRow_heap w4 _ _ _ _ _ X4.out)
 have B5:Hid (Below w.heap.size w (w4.setRow w.heap.size (ah [t0,t1,t2,t3,t4,t5,t6,t7,t8,t9]))):=Lib.hid (below_setRow B4.out (Nat.le_refl _) _)
 generalize w4.setRow w.heap.size (ah [t0,t1,t2,t3,t4,t5,t6,t7,t8,t9])=w5 at*
 go_wp2_with fail
 exact bodyPost_ret (v:= .tuple #[.agg (ah [t0,t1,t2,t3,t4,t5,t6,t7,t8,t9]), .int .i64 0]) (xA Tryz.results166 _ _ w.heap.size [t0,t1,t2,t3,t4,t5,t6,t7,t8,t9] _ _ rfl rfl X5.out rfl) rfl ⟨rfl,B5.out⟩
end
section
theorem lJ(v:Value)(T:List Int)(w:World)(hT:T.length=10)(h:abt w v T):Calls Tryz.prog 166 #[v] w fun e w'=>e= .returned (.tuple #[.agg (ah T), .int .i64 0])∧Below w.heap.size w w':=by
 obtain⟨a,c,rfl,h⟩:=h
 match T,hT,h with
 |[t0,t1,t2,t3,t4,t5,t6,t7,t8,t9],_,h=>
  obtain⟨b,o,rfl,hlt,hc⟩:=h.resolve_left (by simp)
  exact adR b o c t0 t1 t2 t3 t4 t5 t6 t7 t8 t9 w hlt hc
set_option maxHeartbeats 1000000 in
theorem Mi(mp fb n s q:Nat)(L:List Int)(f:Int)(w:World)(hm:bT w mp fb n L)(hf:j5 n f 0)(hs:s<3)(hq:q=10*s):
  Calls Tryz.prog 164 #[.pointer (some ⟨mp,0,none⟩), .int .i64 f, .int .i64 s] w fun e w'=>e= .returned (.tuple #[.int .i64 q, .int .i64 0])∧Below w.heap.size w w':=by
 subst hq
 have HM:=Lib.hid hm
 have HF:=Lib.hid hf
 have hs':(s:Int)<3:=by omega
 have hd:decide ((s:Int)<0)=false:=decide_eq_false (by omega)
 clear hm hf
 go_enter Tryz.func164,Tryz.ntmps164
 go_wp2_with fail
 refine(Ik mp fb n L f 0 w HM.out HF.out).mono ?_
 rintro e w1 ⟨rfl,hb⟩
 have HB:=Lib.hid hb
 clear hb
 go_wp2
 go_ret2
 exact⟨by go_num,HB.out⟩
end
section
def rW(L:List Int)(i:Nat)(T:List Int):Nat→List Int
 |0=>L
 |k+1=>(rW L i T k).set (i+k) (T.getD k 0)
theorem zT(L:List Int)(i:Nat)(T:List Int):∀k,(rW L i T k).length=L.length
 |0=>rfl
 |k+1=>by rw[rW,List.length_set,zT L i T k]
theorem uS(L:List Int)(i:Nat)(T:List Int)(j:Nat):∀k,i+k≤L.length→(rW L i T k).getD j 0=if i≤j∧j<i+k then T.getD (j-i) 0 else L.getD j 0
 |0,_=>by rw[if_neg (by omega)];rfl
 | k+1,h=>by
  rw[rW,VQ _ _ _ _ (by rw[zT];omega),uS L i T j k (by omega)]
  by_cases h1:i+k=j
  ·subst h1
   rw[if_pos rfl,if_pos (by omega),show i+k-i=k by omega]
  ·rw[if_neg h1]
   by_cases h2:i≤j∧j<i+k
   ·rw[if_pos h2,if_pos (by omega)]
   ·rw[if_neg h2,if_neg (by omega)]
def aaU(w:World)(mp fb n:Nat)(L:List Int)(i0:Nat)(T:List Int)(b:Nat)(i:Value)(wr:World):Prop:=
 ∃k:Nat,i= .int .i64 k∧k≤10∧Puts w wr mp fb n (rW L i0 T k)∧wr.heap[b]? =some (.cells (ah T) 25 (0,0))
set_option maxHeartbeats 2000000 in
theorem aaV(mp fb n s q:Nat)(L:List Int)(f:Int)(T:List Int)(w:World)(hT:T.length=10)(hm:bT w mp fb n L)(hf:j5 n f 0)(hs:s<3)(hq:q=10*s):
  Calls Tryz.prog 163 #[.pointer (some ⟨mp,0,none⟩), .int .i64 f, .int .i64 s, .agg (ah T)] w fun e w'=>e= .returned (.int .i64 0)∧Puts w w' mp fb n (rW L (idx f q) T 10):=by
 have HM:=Lib.hid hm
 have HT:=Lib.hid hT
 have HF:=Lib.hid hf
 have HS:=Lib.hid hs
 have B0:=Lib.hid ((Below.refl w.heap.size w).alloc (Nat.le_refl _) (.cells (ah T) 174))
 have X0:=Lib.hid (heap_alloc_new w (.cells (ah T) 174))
 have HQ:=Lib.hid hq
 clear hm hT hf hs hq
 go_enter Tryz.func163,Tryz.ntmps163
 go_wp2_with fail
 refine(Mi mp fb n s q L f _ (HM.out.below B0.out) HF.out HS.out HQ.out).mono ?_
 rintro e w1 ⟨rfl,hb⟩
 have B1:=Lib.hid (B0.out.trans (hb.mono B0.out.size))
 have X1:=Lib.hid (below_block hb X0.out)
 have hq:q≤20:=by have:=HS.out;have:=HQ.out;omega
 clear hb
 go_wp2_with(refine yT rfl (.tmp 7) rfl w.heap.size T 174 rfl X1.out HT.out ?_)
 refine(Yh T HT.out w1).mono ?_
 rintro e w2 ⟨b,rfl,hlb,hrow,hb⟩
 have B2:=Lib.hid (B1.out.trans (hb.mono B1.out.size))
 have P2:Hid (Puts w w2 mp fb n (rW L (idx f q) T 0)):=Lib.hid (Puts.stay HM.out B2.out)
 have R2:=Lib.hid hrow
 have HNE:Hid (b≠fb):=Lib.hid (fun e=>by have:=lt_of_block (HM.out.below B1.out).row;omega)
 clear hb hrow hlb
 go_wp2_with fail
 go_loopw [26] (fun i wr=>aaU w mp fb n L (idx f q) T b i wr) (fun i _=>(10-(intOf i).toNat))
 case atStart=>exact⟨0,rfl,by omega,P2.out,R2.out⟩
 case round=>
  obtain⟨k,rfl,hk,hp,hr⟩:=hrel
  have P3:=Lib.hid hp
  have R3:=Lib.hid hr
  clear hp hr
  by_cases hlt:k<10
  ·have c0:wr.cell? ⟨b,k,none⟩=some (.int .u32 (T.getD k 0)):=by
    rw[cell_of_row wr _ _ _ _ _ R3.out]
    exact jD T k (by rw[HT.out];exact hlt)
   go_wp2_with fail
   refine(ZJ mp fb n _ f ((q:Int)+k) (T.getD k 0) wr P3.out.st (by have:=HF.out;unfold j5 at this ⊢;omega)).mono ?_
   rintro e w3 ⟨rfl,hp⟩
   rw[show idx f ((q:Int)+k)=idx f q+k by unfold idx;omega]at hp
   have P4:=Lib.hid (P3.out.next hp)
   have R4:=Lib.hid ((hp.grown.block b (lt_of_block R3.out) (fun e=>HNE.out (Option.some.inj e))).trans R3.out)
   clear hp c0
   go_wp2
   go_roundw
   case rel=>exact⟨k+1,by go_num,by omega,P4.out,R4.out⟩
   case measure=>simp[intOf];omega
  ·obtain rfl:k=10:=by omega
   go_wp2
   go_ret
   exact⟨rfl,P3.out⟩
end
section
def oo(L:List Int)(i:Nat):List Int:=(List.range 10).map fun j=>L.getD (i+j) 0
theorem j4(L:List Int)(i:Nat):(oo L i).length=10:=by simp[oo]
theorem yU(L:List Int)(i j:Nat)(hj:j<10):(oo L i).getD j 0=L.getD (i+j) 0:=by
 simp[oo,List.getD_eq_getElem?_getD,hj]
set_option maxHeartbeats 2000000 in
theorem aaW(mp fb n s q:Nat)(L:List Int)(f:Int)(w:World)(hm:bT w mp fb n L)(hf:j5 n f 0)(hs:s<3)(hq:q=10*s):
  Calls Tryz.prog 104 #[.pointer (some ⟨mp,0,none⟩), .int .i64 f, .int .i64 s] w fun e w'=>e= .returned (.tuple #[.agg (ah (oo L (idx f q))), .int .i64 0])∧Below w.heap.size w w':=by
 have hz:=Yi
 have HM:=Lib.hid hm
 have HF:=Lib.hid hf
 have HS:=Lib.hid hs
 have HQ:=Lib.hid hq
 have B0:=Lib.hid ((Below.refl w.heap.size w).alloc (Nat.le_refl _) (.cells (ah SG) 174))
 have X0:=Lib.hid (heap_alloc_new w (.cells (ah SG) 174))
 clear hm hf hs hq
 go_enter Tryz.func104,Tryz.ntmps104
 go_wp2_with fail
 refine(Mi mp fb n s q L f _ (HM.out.below B0.out) HF.out HS.out HQ.out).mono ?_
 rintro e w1 ⟨rfl,hb⟩
 have B1:=Lib.hid (B0.out.trans (hb.mono B0.out.size))
 have X1:=Lib.hid (below_block hb X0.out)
 have hq:q≤20:=by have:=HS.out;have:=HQ.out;omega
 clear hb
 go_wp2_with fail
 refine(acK mp fb n L f w1 (HM.out.below B1.out) HF.out).mono ?_
 rintro e w2 ⟨v,rfl,hr,hb⟩
 obtain⟨b,t,rfl,hlb,hr⟩:=hr
 have hlen:(rowOf L f.toNat).length=32:=by
  have:=HF.out;unfold j5 at this
  exact d9 HM.out.len (by omega)
 rw[hlen]
 have HL:=Lib.hid hlen
 have R2:=Lib.hid hr
 have B2:=Lib.hid (B1.out.trans (hb.mono B1.out.size))
 have X2:=Lib.hid (below_block hb X1.out)
 clear hb hr hlb hlen
 have T2:Hid (abt w2 (.slice (some ⟨b,q,none⟩) 10 (32-q)) (oo L (idx f q))):=Lib.hid ⟨_,_,by rw[j4],Or.inr ⟨b,q,rfl,lt_of_block R2.out,fun i hi=>by
  rw[j4]at hi
  rw[cell_of_row w2 b _ _ _ _ R2.out,jD _ _ (by rw[HL.out];omega),Nr _ _ _ (by omega),yU _ _ _ hi,show idx f q+i=f.toNat*32+(q+i) by unfold idx;omega]⟩⟩
 go_wp2_with fail
 refine(lJ _ (oo L (idx f q)) w2 (j4 _ _) T2.out).mono ?_
 rintro e w3 ⟨rfl,hb⟩
 have B3:=Lib.hid (B2.out.trans (hb.mono B2.out.size))
 have X3:=Lib.hid (below_block hb X2.out)
 clear hb
 go_wp2_with(refine oP rfl (.tmp 6) (.tmp 35) rfl w.heap.size SG (oo L (idx f q)) 174 rfl rfl X3.out rfl (j4 _ _) ?_)
 exact bodyPost_ret (v:= .tuple #[.agg (ah (oo L (idx f q))), .int .i64 0]) (xA Tryz.results104 _ _ w.heap.size (oo L (idx f q)) _ _ rfl rfl (setRow_heap w3 _ _ _ _ _ X3.out) (j4 _ _)) rfl ⟨rfl,below_setRow B3.out (Nat.le_refl _) _⟩
end
end Go.Proofs.YtammlljefhakmaaGreatDoor
