/- Helps of the proof. No condition. -/
import Derived.Test.YtammlljefhakmaaGreatDoorRows
import Derived.WalkKit
import Derived.WalkSpells
import Derived.WalkLawsBesides
import Derived.Deep.QuietTactic
import Derived.BigQuiet
import Derived.Lib.Hide
import Derived.Laws.MakeOwn
import Derived.Laws.Rows
import Derived.StillTailTactics
import Derived.Below
import Derived.Deep.MidRow
import Derived.Deep.WholeRow
import Derived.OneCell
namespace Go.Proofs.YtammlljefhakmaaGreatDoor
open Go.RowKit
set_option maxRecDepth 100000
section
def ah(L:List Int):Array Value:=(L.map (Value.int .u32)).toArray
theorem jD(L:List Int)(i:Nat)(h:i<L.length):(ah L)[i]? =some (.int .u32 (L.getD i 0)):=by
 simp[ah,h]
structure bT(w:World)(mp fb n:Nat)(L:List Int):Prop where
 box:w.heap[mp]? =some (.cells #[.slice (some ⟨fb,0,none⟩) n n] 110 (0,0))
 row:w.heap[fb]? =some (.cells (ah L) 278 (0,0))
 len:L.length=n*32
 ne:mp≠fb
 pos:0<n
 top:n≤1024
theorem bT.iE{w:World}{mp fb n:Nat}{L:List Int}(h:bT w mp fb n L):w.cell? ⟨mp,0,none⟩=some (.slice (some ⟨fb,0,none⟩) n n):=by
 rw[cell_of_row w mp 0 _ _ _ h.box];rfl
set_option maxRecDepth 100000 in
set_option maxHeartbeats 400000 in
theorem aO(mp:Nat)(a:Option Addr)(n c:Nat)(w:World)(h:w.cell? ⟨mp,0,none⟩=some (.slice a n c)):
  Calls Tryz.prog 65 #[.pointer (some ⟨mp,0,none⟩)] w fun e w'=>e= .returned (.int .i64 n)∧w=w':=by
 go_enter Tryz.func65,Tryz.ntmps65
 go_wp2
 go_ret
 exact⟨rfl,rfl⟩
set_option maxRecDepth 100000 in
set_option maxHeartbeats 400000 in
theorem MK(w:World):
  Calls Tryz.prog 65 #[.pointer none] w fun e w'=>e= .returned (.int .i64 0)∧w=w':=by
 go_enter Tryz.func65,Tryz.ntmps65
 go_wp2
 go_ret
 exact⟨rfl,rfl⟩
structure rY(w:World)(bm bf bp:Nat)(p:Value)(f q:Int):Prop where
 m:w.cell? ⟨bm,0,none⟩=some p
 f:w.cell? ⟨bf,0,none⟩=some (.int .i64 f)
 q:w.cell? ⟨bp,0,none⟩=some (.int .i64 q)
end
section
theorem enters{k:Nat}{fn:Func}(h:Tryz.prog.funcs[k]? =some fn)(hn:(fn.name== "runtime.NumGoroutine")=false)(hb:fn.body.isNone=false)(args:Array Value)(W:World):(callFunc k args).run Tryz.prog W= .ok (.enter k args) W:=by
 have h1:¬fn.name= "runtime.NumGoroutine" :=by simpa using hn
 have h2:¬fn.body=none:=by intro e;rw[e]at hb;exact absurd hb (by decide)
 simp[callFunc,Sem.run_bind,h,h1,h2]
set_option maxRecDepth 100000 in
set_option maxHeartbeats 800000 in
theorem YU(d:Value)(bm bf bp mp n:Nat)(a:Option Addr)(f q:Int)(w:World)(h:rY w bm bf bp (.pointer (some ⟨mp,0,none⟩)) f q)(hn:0<n)(hz:w.cell? ⟨mp,0,none⟩=some (.slice a n n))(hf:f<0):
  Calls Tryz.prog 194 #[d, .pointer (some ⟨bm,0,none⟩), .pointer (some ⟨bf,0,none⟩), .pointer (some ⟨bp,0,none⟩)] w fun e w'=>e= .returned (.int .i64 2)∧∃m,w'=w.drewN m:=by
 have h1:=h.m
 have h2:=h.f
 have h3:=h.q
 have hz:=Lib.hid hz
 clear h
 go_enter Tryz.func194,Tryz.ntmps194
 go_wp2_with(go_at_call 65;refine(aO _ _ _ _ _ hz.out).mono ?_;rintro e w' ⟨rfl,rfl⟩)
 go_quiet (fail)
 go_wp2
 go_ret
 exact⟨rfl,_,rfl⟩
set_option maxRecDepth 100000 in
set_option maxHeartbeats 800000 in
theorem YW(d:Value)(bm bf bp mp n:Nat)(a:Option Addr)(f q:Int)(w:World)(h:rY w bm bf bp (.pointer (some ⟨mp,0,none⟩)) f q)(hn:0<n)(hz:w.cell? ⟨mp,0,none⟩=some (.slice a n n))(hf:n≤f):
  Calls Tryz.prog 194 #[d, .pointer (some ⟨bm,0,none⟩), .pointer (some ⟨bf,0,none⟩), .pointer (some ⟨bp,0,none⟩)] w fun e w'=>e= .returned (.int .i64 2)∧∃m,w'=w.drewN m:=by
 have h1:=h.m
 have h2:=h.f
 have h3:=h.q
 have hz:=Lib.hid hz
 have hd:decide (f<0)=false:=decide_eq_false (by omega)
 have hd2:decide ((n:Int)≤f)=true:=decide_eq_true (by omega)
 clear h
 go_enter Tryz.func194,Tryz.ntmps194
 go_wp2_with(go_at_call 65;refine(aO _ _ _ _ _ hz.out).mono ?_;rintro e w' ⟨rfl,rfl⟩)
 go_quiet ((go_at_call 65;exact Calls.quiet_of_same ((aO _ _ _ _ _ (by exact hz.out)).mono fun _ _ h=>⟨h.1,h.2.symm⟩)))
 go_wp2
 go_ret
 exact⟨rfl,_,rfl⟩
set_option maxRecDepth 100000 in
set_option maxHeartbeats 800000 in
theorem QZ(d:Value)(bm bf bp mp n:Nat)(a:Option Addr)(f q:Int)(w:World)(h:rY w bm bf bp (.pointer (some ⟨mp,0,none⟩)) f q)(hn:0<n)(hz:w.cell? ⟨mp,0,none⟩=some (.slice a n n))(hf0:0≤f)(hf:f<n)(hq:q<0∨32≤q):
  Calls Tryz.prog 194 #[d, .pointer (some ⟨bm,0,none⟩), .pointer (some ⟨bf,0,none⟩), .pointer (some ⟨bp,0,none⟩)] w fun e w'=>e= .returned (.int .i64 2)∧∃m,w'=w.drewN m:=by
 have h1:=h.m
 have h2:=h.f
 have h3:=h.q
 have hz:=Lib.hid hz
 have hd:decide (f<0)=false:=decide_eq_false (by omega)
 have hd2:decide ((n:Int)≤f)=false:=decide_eq_false (by omega)
 clear h
 rcases hq with hq|hq
 all_goals
  go_enter Tryz.func194,Tryz.ntmps194
  go_wp2_with(go_at_call 65;refine(aO _ _ _ _ _ hz.out).mono ?_;rintro e w' ⟨rfl,rfl⟩)
  go_quiet ((go_at_call 65;exact Calls.quiet_of_same ((aO _ _ _ _ _ (by exact hz.out)).mono fun _ _ h=>⟨h.1,h.2.symm⟩)))
  go_wp2
  go_ret
  exact⟨rfl,_,rfl⟩
theorem xK(k:Nat)(caps:Array Value)(hent:∀(args:Array Value) (W:World),(callFunc k args).run Tryz.prog W= .ok (.enter k args) W)(bm bf bp mp fb n f:Nat)(q:Int)(w:World)(Q:World→Prop)(h:rY w bm bf bp (.pointer (some ⟨mp,0,none⟩)) f q)(hz:w.cell? ⟨mp,0,none⟩=some (.slice (some ⟨fb,0,none⟩) n n))(hf:f<n)(hq0:0≤q)(hq:q<32)
  (hdo:∀m,Calls Tryz.prog k (#[.pointer (some ⟨fb,f*32,none⟩)]++caps) (w.drewN m) fun e w'=>e= .returned (.tuple #[])∧Q w'):
  Calls Tryz.prog 194 #[.func (.func k) #[] caps, .pointer (some ⟨bm,0,none⟩), .pointer (some ⟨bf,0,none⟩), .pointer (some ⟨bp,0,none⟩)] w fun e w'=>e= .returned (.int .i64 0)∧Q w':=by
 have h1:=h.m
 have h2:=h.f
 have h3:=h.q
 have HZ:=Lib.hid hz
 have hd:decide ((f:Int)<0)=false:=decide_eq_false (by omega)
 have hd2:decide ((n:Int)≤f)=false:=decide_eq_false (by omega)
 clear h
 go_enter Tryz.func194,Tryz.ntmps194
 go_wp2_with(go_at_call 65;refine(aO _ _ _ _ _ HZ.out).mono ?_;rintro e w' ⟨rfl,rfl⟩)
 go_quiet ((go_at_call 65;exact Calls.quiet_of_same ((aO _ _ _ _ _ (by exact HZ.out)).mono fun _ _ h=>⟨h.1,h.2.symm⟩)))
 go_wp2
 obtain⟨W2,hW2⟩:∃W2,W2=w.drewN nq:=⟨_,rfl⟩
 have c1:W2.cell? ⟨bm,0,none⟩=some (.pointer (some ⟨mp,0,none⟩)):=by rw[hW2];exact h1
 have c2:W2.cell? ⟨bf,0,none⟩=some (.int .i64 f):=by rw[hW2];exact h2
 have c3:W2.cell? ⟨mp,0,none⟩=some (.slice (some ⟨fb,0,none⟩) n n):=by rw[hW2];exact HZ.out
 have HD:Hid (Calls Tryz.prog k (#[.pointer (some ⟨fb,f*32,none⟩)]++caps) W2.drew fun e w'=>e= .returned (.tuple #[])∧Q w'):=Lib.hid (by rw[hW2];exact hdo (nq+1))
 rw[←hW2]
 clear hW2 h1 h2 h3 HZ hdo
 refine wp_region_still_tail 7 (by kernel_rfl) (by kernel_rfl) ?_
 simp only[List.take_succ_cons,List.take_zero,List.drop_succ_cons,List.drop_zero]
 repeat still_step
 try refine wpStill_nil ?_
 go_wp2_with fail
 refine HD.out.mono ?_
 rintro e w' ⟨rfl,hq⟩
 have HQ:=Lib.hid hq
 clear hq
 go_wp2
 go_ret
 exact⟨rfl,HQ.out⟩
end
section
def rowOf(L:List Int)(f:Nat):List Int:=(L.drop (f*32)).take 32
def putRow(L:List Int)(f:Nat)(R:List Int):List Int:=L.take (f*32)++R++L.drop (f*32+32)
def zeros:List Int:=List.replicate 32 0
theorem d9{L:List Int}{f n:Nat}(h:L.length=n*32)(hf:f<n):(rowOf L f).length=32:=by
 simp[rowOf,h];omega
theorem gQ{L R:List Int}{f n:Nat}(h:L.length=n*32)(hf:f<n)(hR:R.length=32):(putRow L f R).length=n*32:=by
 simp[putRow,h,hR];omega
theorem dw(L:List Int):(ah L).size=L.length:=by simp[ah]
theorem fJ(L:List Int):(ah L).all (·.oneCell')=true:=by
 simp[ah,Value.oneCell']
theorem DZ(L:List Int):(ah L).toList=L.map (Value.int .u32):=by simp[ah]
theorem vg(L:List Int)(i:Nat)(v:Int):(ah L).setIfInBounds i (.int .u32 v)=ah (L.set i v):=by
 apply Array.ext'
 simp[ah,List.map_set]
theorem UK{L:List Int}{f n:Nat}(h:L.length=n*32)(hf:f<n)(j:Nat)(v:Value)(hv:((rowOf L f).map (Value.int .u32))[j]? =some v):(ah L)[f*32+j]? =some v:=by
 have hj:j<32:=by have:=(List.getElem?_eq_some_iff.1 hv).1;rw[List.length_map,d9 h hf]at this;exact this
 rw[←hv]
 simp only[ah,List.getElem?_toArray,List.getElem?_map,rowOf,List.getElem?_take,List.getElem?_drop,if_pos hj]
theorem ML{P:Program}{ty:TypeId}{d:TypeDesc}(hu:P.underlying ty=some d)(hd:d.isRow=true)(hi:(P.info? ty).map (·.size)=some 32){w:World}{fb f n:Nat}{L:List Int}{t:TypeId}(hg:w.heap[fb]? =some (.cells (ah L) t (0,0)))(hl:L.length=n*32)(hf:f<n):
  (Instr.loadAt ty (.pointer (some ⟨fb,f*32,none⟩))).run P w= .ok (.agg (ah (rowOf L f))) w:=
 run_loadAt_mid w fb (f*32) ty ((rowOf L f).map (Value.int .u32)) d (fun j v hv=>by rw[cell_of_row w fb _ _ _ _ hg];exact UK hl hf j v hv) hu hd (by rw[List.length_map,d9 hl hf];exact hi)
theorem Jk{P:Program}{ty:TypeId}(hi:(P.info? ty).map (·.size)=some 32){w:World}{fb f n:Nat}{L R:List Int}{t:TypeId}(hg:w.heap[fb]? =some (.cells (ah L) t (0,0)))(hl:L.length=n*32)(hf:f<n)(hR:R.length=32):
  (Instr.storeAt ty (.pointer (some ⟨fb,f*32,none⟩)) (.agg (ah R))).run P w= .ok () (w.setRow fb (ah (putRow L f R))):=by
 have:=run_storeCells_at P fb (f*32) t (R.map (Value.int .u32)) 0 (ah L) w hg (by rw[List.length_map,dw,hR,hl];omega) (fun v hv=>by
  obtain⟨x,_,rfl⟩:=List.mem_map.1 hv;rfl)
 have e:((ah L).toList.take (f*32+0)++R.map (Value.int .u32)++(ah L).toList.drop (f*32+0+(R.map (Value.int .u32)).length)).toArray=ah (putRow L f R):=by
  simp[ah,putRow,hR]
 rw[e]at this
 cases hq:P.info? ty with
 |none=>simp[hq]at hi
 |some i=>
  have hs:i.size=32:=by simpa[hq]using hi
  simp[Instr.storeAt,Instr.sureAddr,storeVar,Sem.run_bind,sizeOf,typeInfo,hq,hs,Value.cells,DZ,this,dw,hR]
theorem Jl:(Tryz.prog.info? 278).map (fun i=>(i.zero,i.size))=some (some (.agg (ah zeros)),32):=by kernel_rfl
theorem Ra:∃d,Tryz.prog.underlying 278=some d∧d.isRow=true:=⟨_,Tryz.underlying278,rfl⟩
theorem pageSize:(Tryz.prog.info? 278).map (·.size)=some 32:=(zero_of_info Jl).2
theorem Jm(w:World):(zeroValue 278).run Tryz.prog w= .ok (.agg (ah zeros)) w:=(zero_of_info Jl).1 w
theorem Rb{w:World}{fb f n:Nat}{L:List Int}{t:TypeId}(hg:w.heap[fb]? =some (.cells (ah L) t (0,0)))(hl:L.length=n*32)(hf:f<n):
  (Instr.loadAt 278 (.pointer (some ⟨fb,f*32,none⟩))).run Tryz.prog w= .ok (.agg (ah (rowOf L f))) w:=
 let⟨_,h1,h2⟩:=Ra
 ML h1 h2 pageSize hg hl hf
theorem MN{w:World}{fb f n:Nat}{L R:List Int}{t:TypeId}(hg:w.heap[fb]? =some (.cells (ah L) t (0,0)))(hl:L.length=n*32)(hf:f<n)(hR:R.length=32):
  (Instr.storeAt 278 (.pointer (some ⟨fb,f*32,none⟩)) (.agg (ah R))).run Tryz.prog w= .ok () (w.setRow fb (ah (putRow L f R))):=Jk pageSize hg hl hf hR
section
variable {ops:Array Oper} {rest:List Oper} {op:Oper} {a:Act} {w:World} {Q:Exit→Act→World→Prop}
theorem kY(hgd:op.guard=none)(x:Operand)(ho:op.op= .load 278 x)(fb f n:Nat)(L:List Int)(t:TypeId)(hx:a.eval x= .pointer (some ⟨fb,f*32,none⟩))(hg:w.heap[fb]? =some (.cells (ah L) t (0,0)))(hl:L.length=n*32)(hf:f<n)
  (h:wpList Tryz.prog ops Q rest (a.put op.dst (.agg (ah (rowOf L f)))) w):wpList Tryz.prog ops Q (op::rest) a w:=
 wpList_plain hgd fun _ hK=>by
  unfold Oper.wp execOp
  simp only[ho,hx,Sem.run_bind,Rb hg hl hf,Result.andThen_ok]
  exact hK _ _ h
theorem iq(hgd:op.guard=none)(x y:Operand)(ho:op.op= .store 278 x y)(fb f n:Nat)(L R:List Int)(t:TypeId)(hx:a.eval x= .pointer (some ⟨fb,f*32,none⟩))(hy:a.eval y= .agg (ah R))(hg:w.heap[fb]? =some (.cells (ah L) t (0,0)))(hl:L.length=n*32)(hf:f<n)(hR:R.length=32)
  (h:wpList Tryz.prog ops Q rest (a.put op.dst undef) (w.setRow fb (ah (putRow L f R)))):wpList Tryz.prog ops Q (op::rest) a w:=
 wpList_plain hgd fun _ hK=>by
  unfold Oper.wp execOp
  simp only[ho,hx,hy,Sem.run_bind,MN hg hl hf hR,Result.andThen_ok]
  exact hK _ _ h
theorem vZ(hgd:op.guard=none)(ho:op.op= .build 278 #[])
  (h:wpList Tryz.prog ops Q rest (a.put op.dst (.agg (ah zeros))) w):wpList Tryz.prog ops Q (op::rest) a w:=by
 have hb:(Tryz.prog.built 278 [])=some (ah zeros):=by kernel_rfl
 have e:∀g:Nat×Operand→Nat×Value,(Array.map g #[]).toList=[]:=fun g=>by simp
 refine wpList_build hgd 278 #[] ho (by rw[e,hb];rfl) ?_
 rw[e,hb]
 exact h
end
theorem ED(R:List Int)(h:R.length=32):rowOf R 0=R:=by simp[rowOf,List.take_of_length_le,h]
theorem AV(L R:List Int)(h:L.length=32):putRow L 0 R=R:=by simp[putRow,h]
set_option maxRecDepth 100000 in
set_option maxHeartbeats 400000 in
theorem abX(fb f n:Nat)(L:List Int)(w:World)(t:TypeId)(hg:w.heap[fb]? =some (.cells (ah L) t (0,0)))(hl:L.length=n*32)(hf:f<n):
  Calls Tryz.prog 237 #[.pointer (some ⟨fb,f*32,none⟩)] w fun e w'=>e= .returned (.tuple #[])∧w'=w.setRow fb (ah (putRow L f zeros)):=by
 have hg:=Lib.hid hg
 have hl:=Lib.hid hl
 go_enter Tryz.func237,Tryz.ntmps237
 go_wp2_with(first|(refine vZ rfl rfl ?_)|(refine iq rfl (.tmp 4) (.tmp 3) rfl fb f n L zeros t rfl rfl hg.out hl.out hf rfl ?_))
 go_end0
 exact⟨rfl,rfl⟩
set_option maxRecDepth 100000 in
set_option maxHeartbeats 400000 in
theorem abY(fb f n bx:Nat)(L R:List Int)(w:World)(t t':TypeId)(hg:w.heap[fb]? =some (.cells (ah L) t (0,0)))(hl:L.length=n*32)(hf:f<n)(hx:w.heap[bx]? =some (.cells (ah R) t' (0,0)))(hR:R.length=32):
  Calls Tryz.prog 215 #[.pointer (some ⟨fb,f*32,none⟩), .pointer (some ⟨bx,0,none⟩)] w fun e w'=>e= .returned (.tuple #[])∧w'=w.setRow bx (ah (rowOf L f)):=by
 have hg:=Lib.hid hg
 have hx:=Lib.hid hx
 have hr:(rowOf L f).length=32:=d9 hl hf
 have hr:=Lib.hid hr
 have hl:=Lib.hid hl
 have YO:=Lib.hid hR
 clear hR
 go_enter Tryz.func215,Tryz.ntmps215
 go_wp2_with(first|(refine kY rfl (.tmp 4) rfl fb f n L t rfl hg.out hl.out hf ?_)|(refine iq rfl (.tmp 1) (.tmp 5) rfl bx 0 1 R (rowOf L f) t' rfl rfl hx.out (by rw[YO.out]) (by omega) hr.out ?_))
 go_end0
 exact⟨rfl,by rw[AV _ _ YO.out]⟩
set_option maxRecDepth 100000 in
set_option maxHeartbeats 400000 in
theorem UL(fb f n bx:Nat)(L R:List Int)(w:World)(t t':TypeId)(hg:w.heap[fb]? =some (.cells (ah L) t (0,0)))(hl:L.length=n*32)(hf:f<n)(hx:w.heap[bx]? =some (.cells (ah R) t' (0,0)))(hR:R.length=32):
  Calls Tryz.prog 246 #[.pointer (some ⟨fb,f*32,none⟩), .pointer (some ⟨bx,0,none⟩)] w fun e w'=>e= .returned (.tuple #[])∧w'=w.setRow bx (ah (rowOf L f)):=by
 have hg:=Lib.hid hg
 have hx:=Lib.hid hx
 have hr:(rowOf L f).length=32:=d9 hl hf
 have hr:=Lib.hid hr
 have hl:=Lib.hid hl
 have YO:=Lib.hid hR
 clear hR
 go_enter Tryz.func246,Tryz.ntmps246
 go_wp2_with(first|(refine kY rfl (.tmp 4) rfl fb f n L t rfl hg.out hl.out hf ?_)|(refine iq rfl (.tmp 1) (.tmp 5) rfl bx 0 1 R (rowOf L f) t' rfl rfl hx.out (by rw[YO.out]) (by omega) hr.out ?_))
 go_end0
 exact⟨rfl,by rw[AV _ _ YO.out]⟩
set_option maxRecDepth 100000 in
set_option maxHeartbeats 400000 in
theorem abZ(fb f n bx:Nat)(L R:List Int)(w:World)(t t':TypeId)(hg:w.heap[fb]? =some (.cells (ah L) t (0,0)))(hl:L.length=n*32)(hf:f<n)(hx:w.heap[bx]? =some (.cells (ah R) t' (0,0)))(hR:R.length=32):
  Calls Tryz.prog 247 #[.pointer (some ⟨fb,f*32,none⟩), .pointer (some ⟨bx,0,none⟩)] w fun e w'=>e= .returned (.tuple #[])∧w'=w.setRow fb (ah (putRow L f R)):=by
 have hg:=Lib.hid hg
 have hx:=Lib.hid hx
 have hl:=Lib.hid hl
 have YO:=Lib.hid hR
 clear hR
 go_enter Tryz.func247,Tryz.ntmps247
 go_wp2_with(first|(refine kY rfl (.tmp 1) rfl bx 0 1 R t' rfl hx.out (by rw[YO.out]) (by omega) ?_)|(refine iq rfl (.tmp 5) (.tmp 4) rfl fb f n L (rowOf R 0) t rfl rfl hg.out hl.out hf (by rw[ED _ YO.out,YO.out]) ?_))
 go_end0
 exact⟨rfl,by rw[ED _ YO.out]⟩
set_option maxRecDepth 100000 in
set_option maxHeartbeats 800000 in
theorem ac0(fb f q bq bw:Nat)(v o:Int)(w:World)(hq:q<32)(h1:w.cell? ⟨fb,f*32+q,none⟩=some (.int .u32 v))(h2:w.cell? ⟨bq,0,none⟩=some (.int .i64 q))(h3:w.cell? ⟨bw,0,none⟩=some (.int .u32 o))(h4:w.frozen? ⟨bw,0,none⟩=false):
  Calls Tryz.prog 138 #[.pointer (some ⟨fb,f*32,none⟩), .pointer (some ⟨bq,0,none⟩), .pointer (some ⟨bw,0,none⟩)] w fun e w'=>e= .returned (.tuple #[])∧w'=(w.setCell ⟨bw,0,none⟩ (.int .u32 v)).drew:=by
 have hq':(q:Int)<32:=by omega
 go_enter Tryz.func138,Tryz.ntmps138
 go_wp2
 go_still_tail 5,(by kernel_rfl)
 go_wp2
 go_end0
 exact⟨rfl,rfl⟩
set_option maxRecDepth 100000 in
set_option maxHeartbeats 800000 in
theorem YX(fb f q bq bw:Nat)(v o:Int)(w:World)(hq:q<32)(h1:w.cell? ⟨fb,f*32+q,none⟩=some (.int .u32 o))(h4:w.frozen? ⟨fb,f*32+q,none⟩=false)(h2:w.cell? ⟨bq,0,none⟩=some (.int .i64 q))(h3:w.cell? ⟨bw,0,none⟩=some (.int .u32 v)):
  Calls Tryz.prog 148 #[.pointer (some ⟨fb,f*32,none⟩), .pointer (some ⟨bw,0,none⟩), .pointer (some ⟨bq,0,none⟩)] w fun e w'=>e= .returned (.tuple #[])∧w'=(w.setCell ⟨fb,f*32+q,none⟩ (.int .u32 v)).drew:=by
 have hq':(q:Int)<32:=by omega
 go_enter Tryz.func148,Tryz.ntmps148
 go_wp2
 go_still_tail 5,(by kernel_rfl)
 go_wp2
 go_end0
 exact⟨rfl,rfl⟩
end
section
def j5(n:Nat)(f q:Int):Prop:=0≤f∧f<n∧0≤q∧q<32
theorem below_block{w w':World}{k:Nat}{o:Obj}(hb:Below w.heap.size w w')(h:w.heap[k]? =some o):w'.heap[k]? =some o:=
 (hb.block k (lt_of_block h)).trans h
theorem bT.below{w w':World}{mp fb n:Nat}{L:List Int}(h:bT w mp fb n L)(hb:Below w.heap.size w w'):bT w' mp fb n L:=
 ⟨below_block hb h.box,below_block hb h.row,h.len,h.ne,h.pos,h.top⟩
theorem below_drewN{B:Nat}{a w:World}(h:Below B a w)(n:Nat):Below B a (w.drewN n):=⟨h.os,h.tape,h.output,h.size,h.block⟩
theorem xL{B:Nat}{w w':World}{n:Nat}(h:Below B (w.drewN n) w'):Below B w w':=⟨h.os,h.tape,h.output,h.size,h.block⟩
theorem below_setRow{B:Nat}{a w:World}(h:Below B a w){g:Nat}(hg:B≤g)(cs:Array Value):Below B a (w.setRow g cs):=
 h.trans ⟨rfl,rfl,rfl,by simp,fun k hk=>by simp only[World.setRow,Array.getElem?_modify];rw[if_neg (by omega)]⟩
theorem YZ(d:Value)(bm bf bp mp fb n:Nat)(f q:Int)(L:List Int)(w:World)(h:rY w bm bf bp (.pointer (some ⟨mp,0,none⟩)) f q)(hm:bT w mp fb n L)(hbad:¬j5 n f q):
  Calls Tryz.prog 194 #[d, .pointer (some ⟨bm,0,none⟩), .pointer (some ⟨bf,0,none⟩), .pointer (some ⟨bp,0,none⟩)] w fun e w'=>e= .returned (.int .i64 2)∧Below w.heap.size w w':=by
 have done:∀(e:Ending) (w':World),(e= .returned (.int .i64 2)∧∃m,w'=w.drewN m)→e= .returned (.int .i64 2)∧Below w.heap.size w w':=fun e w' ⟨he,m,hw⟩=>⟨he,by rw[hw];exact below_drewN (Below.refl _ _) m⟩
 by_cases h1:f<0
 ·exact(YU d bm bf bp mp n _ f q w h hm.pos hm.iE h1).mono done
 by_cases h2:n≤f
 ·exact(YW d bm bf bp mp n _ f q w h hm.pos hm.iE h2).mono done
 ·exact(QZ d bm bf bp mp n _ f q w h hm.pos hm.iE (by omega) (by omega) (by unfold j5 at hbad;omega)).mono done
theorem rY.start(w:World)(p:Value)(f q:Int)(t1 t2 t3:TypeId):rY (((w.alloc (.cells #[p] t1)).alloc (.cells #[.int .i64 f] t2)).alloc (.cells #[.int .i64 q] t3)) w.heap.size (w.heap.size+1) (w.heap.size+2) p f q:=by
 refine⟨?_,?_,?_⟩
 ·rw[World.cell?_alloc_past _ _ _ (by simp;omega),World.cell?_alloc_past _ _ _ (by simp),World.cell?_alloc_at _ _ _ _ rfl];rfl
 ·rw[World.cell?_alloc_past _ _ _ (by simp),World.cell?_alloc_at _ _ _ _ (by simp)];rfl
 ·rw[World.cell?_alloc_at _ _ _ _ (by simp)];rfl
set_option maxRecDepth 100000 in
set_option maxHeartbeats 400000 in
theorem G9(p:Option Addr)(f q:Int)(w:World):
  Calls Tryz.prog 137 #[.pointer p, .int .i64 f, .int .i64 q] w fun e w'=>∃bm bf bp,e= .returned (.func (.func 194) #[] #[.pointer (some ⟨bm,0,none⟩), .pointer (some ⟨bf,0,none⟩), .pointer (some ⟨bp,0,none⟩)])∧rY w' bm bf bp (.pointer p) f q∧Below w.heap.size w w':=by
 have pE:∀(fn:Fn) (first cap:Array Value) (w:World),(Instr.makeFunc fn first cap).run Tryz.prog w= .ok (.func fn first cap) w:=fun _ _ _ _=>rfl
 go_enter Tryz.func137,Tryz.ntmps137
 go_wp2
 go_ret
 exact⟨_,_,_,rfl,rY.start w (.pointer p) f q _ _ _,(((Below.refl _ _).alloc (Nat.le_refl _) _).alloc (by simp) _).alloc (by simp;omega) _⟩
set_option maxRecDepth 100000 in
set_option maxHeartbeats 400000 in
theorem uj(p:Option Addr)(f:Int)(w:World):
  Calls Tryz.prog 214 #[.pointer p, .int .i64 f] w fun e w'=>∃bm bf bp,e= .returned (.func (.func 194) #[] #[.pointer (some ⟨bm,0,none⟩), .pointer (some ⟨bf,0,none⟩), .pointer (some ⟨bp,0,none⟩)])∧rY w' bm bf bp (.pointer p) f 0∧Below w.heap.size w w':=by
 go_enter Tryz.func214,Tryz.ntmps214
 go_wp2_with fail
 refine(G9 p f 0 w).mono ?_
 rintro e w1 ⟨bm,bf,bp,rfl,hA,hb⟩
 have HA:=Lib.hid hA
 have HB:=Lib.hid hb
 clear hA hb
 go_wp2
 go_ret
 exact⟨_,_,_,rfl,HA.out,HB.out⟩
theorem He(args:Array Value)(W:World):(callFunc 138 args).run Tryz.prog W= .ok (.enter 138 args) W:=enters Tryz.func138 rfl rfl args W
theorem D5(args:Array Value)(W:World):(callFunc 148 args).run Tryz.prog W= .ok (.enter 148 args) W:=enters Tryz.func148 rfl rfl args W
theorem Hf(args:Array Value)(W:World):(callFunc 237 args).run Tryz.prog W= .ok (.enter 237 args) W:=enters Tryz.func237 rfl rfl args W
theorem Hg(args:Array Value)(W:World):(callFunc 246 args).run Tryz.prog W= .ok (.enter 246 args) W:=enters Tryz.func246 rfl rfl args W
theorem Hl(args:Array Value)(W:World):(callFunc 247 args).run Tryz.prog W= .ok (.enter 247 args) W:=enters Tryz.func247 rfl rfl args W
theorem Ho(args:Array Value)(W:World):(callFunc 215 args).run Tryz.prog W= .ok (.enter 215 args) W:=enters Tryz.func215 rfl rfl args W
theorem wm(w:World)(u v:Value)(t1 t2:TypeId):((w.alloc (.cells #[u] t1)).alloc (.cells #[v] t2)).heap[w.heap.size]? =some (.cells #[u] t1 (0,0))∧((w.alloc (.cells #[u] t1)).alloc (.cells #[v] t2)).heap[w.heap.size+1]? =some (.cells #[v] t2 (0,0)):=
 ⟨heap_alloc2_old _ _ _,heap_alloc2_new _ _ _⟩
theorem ak(w:World)(u v:Obj):Below w.heap.size w ((w.alloc u).alloc v):=((Below.refl _ _).alloc (Nat.le_refl _) _).alloc (by simp) _
theorem UN(k:Int)(p:Option Addr)(f q:Int)(w:World)(hk:∀(d:Value) (W:World) (bm bf bp:Nat),Below w.heap.size w W→rY W bm bf bp (.pointer p) f q→
   Calls Tryz.prog 194 #[d, .pointer (some ⟨bm,0,none⟩), .pointer (some ⟨bf,0,none⟩), .pointer (some ⟨bp,0,none⟩)] W fun e w'=>e= .returned (.int .i64 k)∧Below W.heap.size W w'):
  Calls Tryz.prog 76 #[.pointer p, .int .i64 f, .int .i64 q] w fun e w'=>e= .returned (.tuple #[.int .u32 0, .int .i64 k])∧Below w.heap.size w w':=by
 have pE:∀(fn:Fn) (first cap:Array Value) (w:World),(Instr.makeFunc fn first cap).run Tryz.prog w= .ok (.func fn first cap) w:=fun _ _ _ _=>rfl
 have HK:=Lib.hid hk
 clear hk
 go_enter Tryz.func76,Tryz.ntmps76
 go_wp2_with fail
 refine(G9 p f q _).mono ?_
 rintro e w1 ⟨bm,bf,bp,rfl,hA,hb⟩
 have B1:=Lib.hid ((ak w (.cells #[.int .i64 q] 3) (.cells #[.int .u32 0] 25)).trans (hb.mono (by simp;omega)))
 have hw:=Lib.hid (below_block hb (wm w (.int .i64 q) (.int .u32 0) 3 25).2)
 have HA:=Lib.hid hA
 clear hA hb
 go_wp2_with fail
 refine(HK.out _ _ _ _ _ B1.out HA.out).mono ?_
 rintro e w2 ⟨rfl,hb⟩
 have hw2:=cell_of_one (below_block hb hw.out)
 have B2:=Lib.hid (B1.out.trans (hb.mono B1.out.size))
 clear hb
 go_wp2
 go_ret2
 exact⟨rfl,B2.out⟩
theorem UO(mp fb n:Nat)(L:List Int)(f q:Int)(w:World)(hm:bT w mp fb n L)(hbad:¬j5 n f q):
  Calls Tryz.prog 76 #[.pointer (some ⟨mp,0,none⟩), .int .i64 f, .int .i64 q] w fun e w'=>e= .returned (.tuple #[.int .u32 0, .int .i64 2])∧Below w.heap.size w w':=
 UN 2 _ f q w fun d W bm bf bp hb hA=>YZ d bm bf bp mp fb n f q L W hA (hm.below hb) hbad
theorem bT.abj{w:World}{mp fb n:Nat}{L:List Int}(h:bT w mp fb n L){f q:Nat}(hf:f<n)(hq:q<32):w.cell? ⟨fb,f*32+q,none⟩=some (.int .u32 (L.getD (f*32+q) 0)):=by
 rw[cell_of_row w fb _ _ _ _ h.row]
 exact jD L _ (by rw[h.len];omega)
theorem bT.aes{w:World}{mp fb n:Nat}{L:List Int}(h:bT w mp fb n L)(i:Nat):w.frozen? ⟨fb,i,none⟩=false:=frozen_of_row w fb i _ _ h.row
set_option maxRecDepth 100000 in
set_option maxHeartbeats 800000 in
theorem Y0(mp fb n f q:Nat)(L:List Int)(w:World)(hm:bT w mp fb n L)(hf:f<n)(hq:q<32):
  Calls Tryz.prog 76 #[.pointer (some ⟨mp,0,none⟩), .int .i64 f, .int .i64 q] w fun e w'=>e= .returned (.tuple #[.int .u32 (L.getD (f*32+q) 0), .int .i64 0])∧Below w.heap.size w w':=by
 have pE:∀(fn:Fn) (first cap:Array Value) (w:World),(Instr.makeFunc fn first cap).run Tryz.prog w= .ok (.func fn first cap) w:=fun _ _ _ _=>rfl
 have HM:=Lib.hid hm
 clear hm
 go_enter Tryz.func76,Tryz.ntmps76
 go_wp2_with fail
 refine(G9 _ _ _ _).mono ?_
 rintro e w1 ⟨bm,bf,bp,rfl,hA,hb⟩
 have B1:=Lib.hid ((ak w (.cells #[.int .i64 q] 3) (.cells #[.int .u32 0] 25)).trans (hb.mono (by simp;omega)))
 have hw:=Lib.hid (below_block hb (wm w (.int .i64 q) (.int .u32 0) 3 25).2)
 have hq1:=Lib.hid (below_block hb (wm w (.int .i64 q) (.int .u32 0) 3 25).1)
 have HA:=Lib.hid hA
 have D7:=Lib.hid (HM.out.below B1.out)
 clear hA hb
 go_wp2_with fail
 refine(xK _ _ He bm bf bp mp fb n f q w1 (fun w'=>Below (w.heap.size+1) w1 w'∧w'.cell? ⟨w.heap.size+1,0,none⟩=some (.int .u32 (L.getD (f*32+q) 0))) HA.out D7.out.iE hf (by omega) (by omega) (fun m=>?_)).mono ?_
 ·refine(ac0 fb f q w.heap.size (w.heap.size+1) (L.getD (f*32+q) 0) 0 (w1.drewN m) hq (D7.out.abj hf hq) (cell_of_one hq1.out) (cell_of_one hw.out) (free_of_one hw.out)).mono ?_
  rintro e w' ⟨rfl,rfl⟩
  refine⟨rfl,xL (((Below.refl _ _).setCell (p:=⟨w.heap.size+1,0,none⟩) (Nat.le_refl _) _).drew),?_⟩
  exact World.cell?_setCell_same _ _ _ (cell_of_one hw.out)
 rintro e w2 ⟨rfl,hb,hw2⟩
 have B2:=Lib.hid (B1.out.trans (hb.mono (by omega)))
 clear hb
 go_wp2
 go_ret2
 exact⟨rfl,B2.out⟩
end
section
theorem aP{w w':World}(h:Below w.heap.size w w')(r:Option Nat):w.grownBy w' r:=⟨h.os,h.tape,h.output,h.size,fun k hk _=>h.block k hk⟩
theorem kZ{w w':World}{r:Nat}(h:w.grownBy w' (some r)){B:Nat}(hB:B≤w.heap.size)(hr:B≤r):Below B w w':=⟨h.os,h.tape,h.output,h.size,fun k hk=>h.block k (by omega) (fun e=>by have:=Option.some.inj e;omega)⟩
theorem grownBy_trans{a b c:World}{r:Option Nat}(h:a.grownBy b r)(k:b.grownBy c r):a.grownBy c r:=
 ⟨k.os.trans h.os,k.tape.trans h.tape,k.output.trans h.output,Nat.le_trans h.size k.size,fun i hi hne=>(k.block i (Nat.lt_of_lt_of_le hi h.size) hne).trans (h.block i hi hne)⟩
theorem grownBy_setCell(w:World)(g i:Nat)(u:Value):w.grownBy (w.setCell ⟨g,i,none⟩ u) (some g):=
 ⟨rfl,rfl,rfl,by simp[World.setCell],fun k _ hne=>Below.heap_setCell _ _ _ _ (fun e=>hne (by rw[e]))⟩
theorem AX(w:World)(g:Nat)(cs:Array Value):w.grownBy (w.setRow g cs) (some g):=
 ⟨rfl,rfl,rfl,by simp,fun k _ hne=>by simp only[World.setRow,Array.getElem?_modify];rw[if_neg (fun e=>hne (by rw[e]))]⟩
theorem ku{a b c:World}{r:Option Nat}(h:a.grownBy b r)(e1:c.heap=b.heap)(e2:c.os=b.os)(e3:c.tape=b.tape)(e4:c.output=b.output):a.grownBy c r:=
 ⟨e2.trans h.os,e3.trans h.tape,e4.trans h.output,by rw[e1];exact h.size,fun k hk hne=>by rw[e1];exact h.block k hk hne⟩
theorem fG{a b c:World}{r:Option Nat}(h:b.grownBy c r)(e1:b.heap=a.heap)(e2:b.os=a.os)(e3:b.tape=a.tape)(e4:b.output=a.output):a.grownBy c r:=
 ⟨h.os.trans e2,h.tape.trans e3,h.output.trans e4,by rw[←e1];exact h.size,fun k hk hne=>by rw[←e1];exact h.block k (by rw[e1];exact hk) hne⟩
theorem bT.UQ{w w':World}{mp fb n:Nat}{L L':List Int}(h:bT w mp fb n L)(hg:w.grownBy w' (some fb))(hr:w'.heap[fb]? =some (.cells (ah L') 278 (0,0)))(hl:L'.length=n*32):bT w' mp fb n L':=
 ⟨(hg.block mp (lt_of_block h.box) (fun e=>h.ne (Option.some.inj e))).trans h.box,hr,hl,h.ne,h.pos,h.top⟩
structure Puts(w w':World)(mp fb n:Nat)(L:List Int):Prop where
 st:bT w' mp fb n L
 grown:w.grownBy w' (some fb)
theorem Puts.stay{w w':World}{mp fb n:Nat}{L:List Int}(h:bT w mp fb n L)(hb:Below w.heap.size w w'):Puts w w' mp fb n L:=⟨h.below hb,aP hb _⟩
theorem Puts.ahead{w w1 w':World}{mp fb n:Nat}{L:List Int}(hb:Below w.heap.size w w1)(h:Puts w1 w' mp fb n L):Puts w w' mp fb n L:=⟨h.st,grownBy_trans (aP hb _) h.grown⟩
theorem Puts.next{w w1 w':World}{mp fb n:Nat}{L L':List Int}(h:Puts w w1 mp fb n L)(k:Puts w1 w' mp fb n L'):Puts w w' mp fb n L':=⟨k.st,grownBy_trans h.grown k.grown⟩
theorem UR{w:World}{mp fb n f q:Nat}{L:List Int}(m:Nat)(v:Int)(h:bT w mp fb n L):Puts w ((w.drewN m).setCell ⟨fb,f*32+q,none⟩ (.int .u32 v)).drew mp fb n (L.set (f*32+q) v):=by
 have hg:w.grownBy ((w.drewN m).setCell ⟨fb,f*32+q,none⟩ (.int .u32 v)).drew (some fb):=fG (b:=w.drewN m) (ku (grownBy_setCell _ _ _ _) rfl rfl rfl rfl) rfl rfl rfl rfl
 refine⟨h.UQ hg ?_ (by rw[List.length_set];exact h.len),hg⟩
 have:=heap_setCell_same (w.drewN m) fb (f*32+q) (ah L) 278 (.int .u32 v) h.row
 rw[vg]at this
 exact this
theorem Jo{w:World}{mp fb n f:Nat}{L R:List Int}(m:Nat)(h:bT w mp fb n L)(hf:f<n)(hR:R.length=32):Puts w ((w.drewN m).setRow fb (ah (putRow L f R))) mp fb n (putRow L f R):=by
 have hg:w.grownBy ((w.drewN m).setRow fb (ah (putRow L f R))) (some fb):=fG (b:=w.drewN m) (AX _ _ _) rfl rfl rfl rfl
 exact⟨h.UQ hg (setRow_heap (w.drewN m) fb _ _ _ _ h.row) (gQ h.len hf hR),hg⟩
set_option maxRecDepth 100000 in
set_option maxHeartbeats 800000 in
theorem AY(mp fb n f q:Nat)(L:List Int)(v:Int)(w:World)(hm:bT w mp fb n L)(hf:f<n)(hq:q<32):
  Calls Tryz.prog 87 #[.pointer (some ⟨mp,0,none⟩), .int .i64 f, .int .i64 q, .int .u32 v] w fun e w'=>e= .returned (.int .i64 0)∧Puts w w' mp fb n (L.set (f*32+q) v):=by
 have pE:∀(fn:Fn) (first cap:Array Value) (w:World),(Instr.makeFunc fn first cap).run Tryz.prog w= .ok (.func fn first cap) w:=fun _ _ _ _=>rfl
 have HM:=Lib.hid hm
 clear hm
 go_enter Tryz.func87,Tryz.ntmps87
 go_wp2_with fail
 refine(G9 _ _ _ _).mono ?_
 rintro e w1 ⟨bm,bf,bp,rfl,hA,hb⟩
 have B1:=Lib.hid ((ak w (.cells #[.int .i64 q] 3) (.cells #[.int .u32 v] 25)).trans (hb.mono (by simp;omega)))
 have hw:=Lib.hid (below_block hb (wm w (.int .i64 q) (.int .u32 v) 3 25).2)
 have hq1:=Lib.hid (below_block hb (wm w (.int .i64 q) (.int .u32 v) 3 25).1)
 have HA:=Lib.hid hA
 have D7:=Lib.hid (HM.out.below B1.out)
 clear hA hb
 go_wp2_with fail
 refine(xK _ _ D5 bm bf bp mp fb n f q w1 (fun w'=>Puts w1 w' mp fb n (L.set (f*32+q) v)) HA.out D7.out.iE hf (by omega) (by omega) (fun m=>?_)).mono ?_
 ·refine(YX fb f q w.heap.size (w.heap.size+1) v (L.getD (f*32+q) 0) (w1.drewN m) hq (D7.out.abj hf hq) (D7.out.aes _) (cell_of_one hq1.out) (cell_of_one hw.out)).mono ?_
  rintro e w' ⟨rfl,rfl⟩
  exact⟨rfl,UR m v D7.out⟩
 rintro e w2 ⟨rfl,hb⟩
 have B2:=Lib.hid (Puts.ahead B1.out hb)
 clear hb
 go_wp2
 go_ret
 exact⟨rfl,B2.out⟩
set_option maxRecDepth 100000 in
set_option maxHeartbeats 800000 in
theorem Y7(mp fb n f:Nat)(L:List Int)(w:World)(hm:bT w mp fb n L)(hf:f<n):
  Calls Tryz.prog 222 #[.pointer (some ⟨mp,0,none⟩), .int .i64 f] w fun e w'=>e= .returned (.int .i64 0)∧Puts w w' mp fb n (putRow L f zeros):=by
 have HM:=Lib.hid hm
 clear hm
 go_enter Tryz.func222,Tryz.ntmps222
 go_wp2_with fail
 refine(uj _ _ _).mono ?_
 rintro e w1 ⟨bm,bf,bp,rfl,hA,hb⟩
 have B1:=Lib.hid hb
 have HA:=Lib.hid hA
 have D7:=Lib.hid (HM.out.below B1.out)
 clear hA hb
 go_wp2_with fail
 refine(xK _ _ Hf bm bf bp mp fb n f 0 w1 (fun w'=>Puts w1 w' mp fb n (putRow L f zeros)) HA.out D7.out.iE hf (by omega) (by omega) (fun m=>?_)).mono ?_
 ·refine(abX fb f n L (w1.drewN m) _ D7.out.row D7.out.len hf).mono ?_
  rintro e w' ⟨rfl,rfl⟩
  exact⟨rfl,Jo m D7.out hf rfl⟩
 rintro e w2 ⟨rfl,hb⟩
 have B2:=Lib.hid (Puts.ahead B1.out hb)
 clear hb
 go_wp2
 go_ret
 exact⟨rfl,B2.out⟩
def UU(B:Nat)(w:World)(v:Value)(R:List Int):Prop:=∃b t,v= .slice (some ⟨b,0,none⟩) R.length R.length∧B≤b∧w.heap[b]? =some (.cells (ah R) t (0,0))
set_option maxRecDepth 100000 in
set_option maxHeartbeats 800000 in
theorem Y9(mp fb n f:Nat)(L:List Int)(w:World)(hm:bT w mp fb n L)(hf:f<n):
  Calls Tryz.prog 165 #[.pointer (some ⟨mp,0,none⟩), .int .i64 f] w fun e w'=>∃v,e= .returned (.tuple #[v, .int .i64 0])∧UU w.heap.size w' v (rowOf L f)∧Below w.heap.size w w':=by
 have pE:∀(fn:Fn) (first cap:Array Value) (w:World),(Instr.makeFunc fn first cap).run Tryz.prog w= .ok (.func fn first cap) w:=fun _ _ _ _=>rfl
 have hz:=Jm
 have HM:=Lib.hid hm
 clear hm
 go_enter Tryz.func165,Tryz.ntmps165
 go_wp2_with fail
 refine(uj _ _ _).mono ?_
 rintro e w1 ⟨bm,bf,bp,rfl,hA,hb⟩
 have B1:=Lib.hid (((Below.refl _ _).alloc (Nat.le_refl _) (.cells (ah zeros) 278)).trans (hb.mono (by simp)))
 have hx:=Lib.hid (below_block hb (heap_alloc_new w (.cells (ah zeros) 278)))
 have HA:=Lib.hid hA
 have D7:=Lib.hid (HM.out.below B1.out)
 clear hA hb
 go_wp2_with fail
 refine(xK _ _ Ho bm bf bp mp fb n f 0 w1 (fun w'=>Below w.heap.size w1 w'∧w'.heap[w.heap.size]? =some (.cells (ah (rowOf L f)) 278 (0,0))) HA.out D7.out.iE hf (by omega) (by omega) (fun m=>?_)).mono ?_
 ·refine(abY fb f n w.heap.size L zeros (w1.drewN m) _ _ D7.out.row D7.out.len hf hx.out rfl).mono ?_
  rintro e w' ⟨rfl,rfl⟩
  exact⟨rfl,below_setRow (below_drewN (Below.refl _ _) m) (Nat.le_refl _) _,setRow_heap (w1.drewN m) _ _ _ _ _ hx.out⟩
 rintro e w2 ⟨rfl,hb,hr⟩
 have B2:=Lib.hid (B1.out.trans hb)
 have HR:=Lib.hid hr
 have hlen:=Lib.hid (d9 D7.out.len hf)
 clear hb hr
 go_wp2
 go_ret2
 exact⟨_,rfl,⟨w.heap.size,_,by rw[hlen.out];rfl,Nat.le_refl _,HR.out⟩,B2.out⟩
end
section
set_option maxRecDepth 100000 in
set_option maxHeartbeats 1000000 in
theorem Za(mp fb n f t:Nat)(L:List Int)(w:World)(hm:bT w mp fb n L)(hf:f<n)(ht:t<n):
  Calls Tryz.prog 238 #[.pointer (some ⟨mp,0,none⟩), .int .i64 t, .int .i64 f] w fun e w'=>e= .returned (.int .i64 0)∧Puts w w' mp fb n (putRow L t (rowOf L f)):=by
 have pE:∀(fn:Fn) (first cap:Array Value) (w:World),(Instr.makeFunc fn first cap).run Tryz.prog w= .ok (.func fn first cap) w:=fun _ _ _ _=>rfl
 have hz:=Jm
 have HM:=Lib.hid hm
 clear hm
 go_enter Tryz.func238,Tryz.ntmps238
 go_wp2_with fail
 refine(uj _ _ _).mono ?_
 rintro e w1 ⟨bm,bf,bp,rfl,hA,hb⟩
 have B1:=Lib.hid (((Below.refl _ _).alloc (Nat.le_refl _) (.cells (ah zeros) 278)).trans (hb.mono (by simp)))
 have hx:=Lib.hid (below_block hb (heap_alloc_new w (.cells (ah zeros) 278)))
 have HA:=Lib.hid hA
 have D7:=Lib.hid (HM.out.below B1.out)
 clear hA hb
 go_wp2_with fail
 refine(xK _ _ Hg bm bf bp mp fb n f 0 w1 (fun w'=>Below w.heap.size w1 w'∧w'.heap[w.heap.size]? =some (.cells (ah (rowOf L f)) 278 (0,0))) HA.out D7.out.iE hf (by omega) (by omega) (fun m=>?_)).mono ?_
 ·refine(UL fb f n w.heap.size L zeros (w1.drewN m) _ _ D7.out.row D7.out.len hf hx.out rfl).mono ?_
  rintro e w' ⟨rfl,rfl⟩
  exact⟨rfl,below_setRow (below_drewN (Below.refl _ _) m) (Nat.le_refl _) _,setRow_heap (w1.drewN m) _ _ _ _ _ hx.out⟩
 rintro e w2 ⟨rfl,hb,hr⟩
 have B2:=Lib.hid (B1.out.trans hb)
 have HR2:=Lib.hid hr
 clear hb hr
 go_wp2_with fail
 refine(uj _ _ _).mono ?_
 rintro e w3 ⟨bm,bf,bp,rfl,hA,hb⟩
 have B3:=Lib.hid (B2.out.trans (hb.mono B2.out.size))
 have HR3:=Lib.hid (below_block hb HR2.out)
 have HA:=Lib.hid hA
 have Zb:=Lib.hid (HM.out.below B3.out)
 clear hA hb
 go_wp2_with fail
 refine(xK _ _ Hl bm bf bp mp fb n t 0 w3 (fun w'=>Puts w3 w' mp fb n (putRow L t (rowOf L f))) HA.out Zb.out.iE ht (by omega) (by omega) (fun m=>?_)).mono ?_
 ·refine(abZ fb t n w.heap.size L (rowOf L f) (w3.drewN m) _ _ Zb.out.row Zb.out.len ht HR3.out (d9 Zb.out.len hf)).mono ?_
  rintro e w' ⟨rfl,rfl⟩
  exact⟨rfl,Jo m Zb.out ht (d9 Zb.out.len hf)⟩
 rintro e w4 ⟨rfl,hb⟩
 have B4:=Lib.hid (Puts.ahead B3.out hb)
 clear hb
 go_wp2
 go_ret
 exact⟨rfl,B4.out⟩
theorem Rc:(Tryz.prog.info? 278).map (fun i=>(i.zero,i.size,i.bytes))=some (some (.agg (ah zeros)),32,128):=by kernel_rfl
theorem Rf(n:Nat):madeCells (ah zeros) (n*32)=ah (List.replicate (n*32) 0):=by
 have e:∀i,i<32→(ah zeros)[i]! = .int .u32 0:=fun i hi=>by
  rw[show ah zeros=Array.replicate 32 (.int .u32 0)from rfl,getElem!_pos _ i (by simpa using hi),Array.getElem_replicate]
 apply Array.ext
 ·rw[size_madeCells,dw,List.length_replicate]
 ·intro i h1 h2
  have h3:i%(ah zeros).size<32:=Nat.mod_lt _ (by decide)
  have:(madeCells (ah zeros) (n*32))[i]=(ah zeros)[i%(ah zeros).size]! :=by simp only[madeCells,Array.getElem_map,Array.getElem_range]
  rw[this,e _ h3]
  simp[ah]
theorem MO(n:Nat)(hn:n≤1024)(w:World):(Instr.makeSlice 108 (.int .i64 (n:Int)) (.int .i64 (n:Int))).run Tryz.prog w= .ok (.slice (some ⟨w.heap.size,0,none⟩) n n) (w.alloc (.cells (ah (List.replicate (n*32) 0)) 278)):=by
 have h:=Rc
 cases hq:Tryz.prog.info? 278 with
 |none=>rw[hq]at h;cases h
 |some i=>
  rw[hq]at h
  simp only[Option.map_some,Option.some.injEq,Prod.mk.injEq]at h
  obtain⟨h1,h2,h3⟩:=h
  have:=run_make (P:=Tryz.prog) w 108 278 i _ Tryz.underlying108 hq h1 .i64 .i64 n n (by omega) (by omega) (by rw[h3];omega) (by omega)
  rw[h2]at this
  simpa[Value.cells,Rf]using this
def Zc(n:Nat)(w:World)(e:Ending)(w':World):Prop:=∃mp fb,e= .returned (.tuple #[.pointer (some ⟨mp,0,none⟩), .int .i64 0])∧bT w' mp fb n (List.replicate (n*32) 0)∧w.heap.size≤mp∧w.heap.size≤fb∧Below w.heap.size w w'
set_option maxRecDepth 100000 in
set_option maxHeartbeats 400000 in
theorem UW(n:Nat)(w:World)(h0:1≤n)(h1:n≤1024):Calls Tryz.prog 24 #[.int .i64 n] w (Zc n w):=by
 have hmk:=MO n h1
 have a1:¬(n:Int)<1:=by omega
 have a2:¬(1024:Int)<n:=by omega
 go_enter Tryz.func24,Tryz.ntmps24
 go_wp2
 go_ret2
 refine⟨w.heap.size+1,w.heap.size,rfl,bT.mk ?_ ?_ (by simp) ?_ h0 h1,?_,?_,?_⟩
 ·exact heap_alloc2_new _ _ _
 ·exact heap_alloc2_old _ _ _
 ·omega
 ·omega
 ·omega
 ·exact((Below.refl _ _).alloc (Nat.le_refl _) _).alloc (by simp) _
end
section
end
end Go.Proofs.YtammlljefhakmaaGreatDoor
