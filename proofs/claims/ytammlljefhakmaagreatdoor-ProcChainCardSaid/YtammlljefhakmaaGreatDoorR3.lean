/- A range over a function whose elements hang on a state that the rounds may turn: a contract for iterators, the law for who ranges; and a region that draws its order within a round, whose reads come ahead of a chain. No condition; nothing of a program. -/
import Derived.Test.YtammlljefhakmaaGreatDoorGR
import Derived.Test.YtammlljefhakmaaGreatDoorGA0
import Derived.StillTailTactics
import Derived.Deep.RegionHeld3
namespace Go.Proofs.YtammlljefhakmaaGreatDoor
open Go.RowKit Go.Shelf
set_option maxRecDepth 100000
def lS(o:Oper):Bool:=match o.op with| .defer _=>false|_=>true
theorem EL{o:Oper}(h:lS o=true)(r:Option Nat)(ρ:Operand→Value):o.semAt r ρ=execOp ρ o:=
 Oper.semAt_eq r ρ o fun c hc=>by unfold lS at h;rw[hc]at h;cases h
theorem U9{l m:Nat}{P:Program}{o:Oper}{a:Act}{w:World}{K:Act→Prop}{K':Act→World→Prop}{Q:Exit→Act→World→Prop}(hp:lS o=true)(hk:∀a,K a→K' a w)(h:o.still P a w K):
  o.wpIn (Fence.wide.inRound l) m P a w K' Q:=by
 refine⟨fun _ _=>trivial,?_⟩
 rw[EL hp]
 unfold Oper.still at h
 generalize(execOp a.eval o).run P w=r at*
 cases r with
 | ok x w'=>
  cases x<;>simp only[Oper.stillUpon,Oper.uponIn]at h ⊢
  case value v=>obtain⟨rfl,h⟩:=h;exact hk _ h
  case skip=>obtain⟨rfl,h⟩:=h;exact hk _ h
  case enter f args=>
   obtain⟨rfl,v,hc,h⟩:=h
   refine⟨fun h=>(by cases h),(callsIn_wide (n:=m-1)).2 (hc.mono ?_)⟩
   rintro e w'' ⟨rfl,rfl⟩
   exact hk _ h
 |halt x w'=>cases x<;>simp only[Oper.stillUpon]at h
theorem JC{l m:Nat}{P:Program}{ops:Array Oper}{i:Nat}{a:Act}{w:World}{K:Act→Prop}{K':Act→World→Prop}{Q:Exit→Act→World→Prop}(hp:∀o∈ops,lS o=true)(hk:∀a,K a→K' a w)(h:stOp P ops w i K a):
  wpOpIn (Fence.wide.inRound l) m P ops Q i K' a w:=by
 unfold stOp at h
 unfold wpOpIn
 cases ho:ops[i]? with
 |none=>simp only[ho]at h;exact hk _ h
 | some o=>
  simp only[ho]at h ⊢
  by_cases hw:Region.wanted o (yielded ops a.tmps)=true
  ·simp only[hw,if_true]at h ⊢
   exact U9 (hp o (Array.mem_of_getElem? ho)) hk h
  ·simp only[hw]at h ⊢
   exact⟨fun _ _=>trivial,hk _ h⟩
theorem sG{l m g n:Nat}{P:Program}{md:Region.Mode}{ops:Array Oper}{Q:Exit→Act→World→Prop}{w:World}{L:Array Bool→Act→Prop}(hp:∀o∈ops,lS o=true)(hL:∀listed a,L listed a→wpAnyIn (Fence.wide.inRound l) m P md ops Q g listed a w):
  ∀(f:Nat) (listed:Array Bool) (a:Act),wpAnyL P md ops w n L f listed a→wpAnyIn (Fence.wide.inRound l) m P md ops Q (f+g) listed a w
 |0,listed,a,h=>by rw[Nat.zero_add];exact hL _ _ h
 |f+1,listed,a,h=>by
  rw[Nat.add_right_comm]
  refine⟨fun h0=>absurd h0 h.1,fun i hi=>JC hp (fun a' h'=>sG hp hL f _ a' h') (h.2 i hi).2⟩
theorem rD{F:Fence}{m:Nat}{P:Program}{md:Region.Mode}{ops:Array Oper}{Q:Exit→Act→World→Prop}:∀(t:List Oper) (k:Nat) (listed:Array Bool) (a:Act) (w:World),(∀j,t[j]? =ops[k+j]?)→
  Region.seqB md ops t.length k listed=true→wpListIn F m P ops Q t a w→wpAnyIn F m P md ops Q t.length listed a w
 |[],_,_,_,_,_,hB,h=>⟨by simpa[Region.seqB]using hB,h⟩
 |o::t,k,listed,a,w,ht,hB,h=>by
  simp only[List.length_cons,Region.seqB,Bool.and_eq_true,decide_eq_true_eq]at hB
  refine wpAnyIn_all hB.1 (by simp) fun i hi=>?_
  obtain rfl:i=k:=by simpa using hi
  have h0:ops[i]? =some o:=by simpa using(ht 0).symm
  have hw:wpOpIn F m P ops Q i (wpListIn F m P ops Q t) a w:=by unfold wpOpIn;simp only[h0];exact h
  exact wpOpIn_mono (fun a' w' h'=>rD t (i+1) _ a' w' (fun j=>by have:=ht (j+1);simpa[Nat.add_assoc,Nat.add_comm 1 j]using this) hB.2 h') hw
theorem sH{l m id:Nat}{P:Program}{Q:Exit→Act→World→Prop}{a:Act}{w:World}{ops:List Oper}(n:Nat)(hm:P.follows .mixedOrders=true)(hB:Region.lexTailB .any ops.toArray n=true)(hp:ops.all lS=true)
  (h:wpStill P ops.toArray w.drew (fun a'=>wpListIn (Fence.wide.inRound l) m P ops.toArray Q (ops.drop n) a' w.drew) (ops.take n) a):(Code.region id ops.toArray true).wpIn (Fence.wide.inRound l) m P Q a w:=by
 simp only[Region.lexTailB,Bool.and_eq_true,decide_eq_true_eq]at hB
 obtain⟨⟨⟨⟨hsel,hn⟩,hs⟩,hc⟩,hlex⟩:=hB
 have hn':n<ops.length:=by simpa using hn
 have htl:(ops.take n).length=n:=by simp;omega
 have hdl:(ops.drop n).length=ops.toArray.size-n:=by simp
 have hpp:∀o∈ops.toArray,lS o=true:=fun o ho=>List.all_eq_true.1 hp o (by simpa using ho)
 have inv0:HeadInv .any ops.toArray n (Array.replicate ops.toArray.size false):=
  ⟨by simp,fun j oj _ hl=>(by rw[getD_replicate_false]at hl;cases hl),fun t _ ht=>getD_in (by simpa using ht) (getD_replicate_false _ _)⟩
 have H:=wpAnyL_lex (md:= .any) (g:=ops.toArray.size-n) hsel hs hc hn (ops.take n) 0 _ a (fun j hj=>by
  have hj':j<n:=by rw[htl]at hj;exact hj
  simp[hj']) (by simpa using htl) inv0 (by rw[htl];exact hlex) h
 refine wpIn_region_any hm ?_
 have key:=sG (l:=l) (m:=m) (Q:=Q) (g:=ops.toArray.size-n) hpp (fun listed a' hL=>by
  have hch:=rD (F:=Fence.wide.inRound l) (m:=m) (md:= .any) (Q:=Q) (ops.drop n) n listed a' w.drew (fun j=>by simp[List.getElem?_drop]) (by rw[hdl];exact hL.1) hL.2
  rwa [hdl]at hch) _ _ _ H
 rw[htl,show n+(ops.toArray.size-n)=ops.toArray.size by omega]at key
 exact key
theorem JD{l m:Nat}{P:Program}{ops:Array Oper}{i:Nat}{a:Act}{w:World}{K K':Act→World→Prop}{Q:Exit→Act→World→Prop}(hp:∀o∈ops,lS o=true)(hQ:LetsOut Q→False)(hk:∀a w,K a w→K' a w)(h:wpOp P ops Q i K a w):
  wpOpIn (Fence.wide.inRound l) m P ops Q i K' a w:=by
 unfold wpOp at h
 unfold wpOpIn
 cases ho:ops[i]? with
 |none=>simp only[ho]at h;exact hk _ _ h
 | some o=>
  simp only[ho]at h ⊢
  by_cases hw:Region.wanted o (yielded ops a.tmps)=true
  ·simp only[hw,if_true]at h ⊢
   have h:=h.resolve_right (fun h=>hQ h.2)
   refine⟨fun _ _=>trivial,?_⟩
   rw[EL (hp o (Array.mem_of_getElem? ho))]
   unfold Oper.wp at h
   generalize(execOp a.eval o).run P w=r at*
   cases r with
   | ok x w'=>
    cases x<;>simp only[Oper.upon,Oper.uponIn]at h ⊢
    case value v=>exact hk _ _ h
    case skip=>exact hk _ _ h
    case defer d=>exact hk _ _ h
    case enter f args=>
     refine⟨fun h=>(by cases h),(callsIn_wide (n:=m-1)).2 (h.mono ?_)⟩
     intro e w'' he
     cases e with
     |returned v=>exact hk _ _ he
     |panicked c=>exact he
     |outgrown=>exact he
    case row row args=>
     refine⟨fun h=>(by cases h),fun c cs _=>?_⟩
     obtain⟨v,w'',hr,hs⟩:=h c cs
     exact⟨v,w'',hk _ _ hr,stepsIn_wide.2 hs⟩
   |halt x w'=>cases x<;>simp only[Oper.upon,Oper.uponIn]at h ⊢ <;>exact h
  ·simp only[hw]at h ⊢
   exact⟨fun _ _=>trivial,hk _ _ h⟩
theorem wD{l m:Nat}{P:Program}{md:Region.Mode}{ops:Array Oper}{Q:Exit→Act→World→Prop}(hp:∀o∈ops,lS o=true)(hQ:LetsOut Q→False):
  ∀(f:Nat) (listed:Array Bool) (a:Act) (w:World),wpAny P md ops Q f listed a w→wpAnyIn (Fence.wide.inRound l) m P md ops Q f listed a w
 |0,_,_,_,h=>h
 |f+1,_,_,_,h=>⟨h.1,fun i hi=>JD hp hQ (fun a' w' h'=>wD hp hQ f _ a' w' h') (h.2 i hi)⟩
theorem Bn{l m id:Nat}{P:Program}{Q:Exit→Act→World→Prop}{a:Act}{w:World}{ops:List Oper}(S:World→Prop)(hm:P.follows .mixedOrders=true)(hp:ops.all lS=true)(hQ:LetsOut Q→False)(hS:S w.drew)
  (h:S w.drew→wpAnyH P .any ops.toArray Q S ops.toArray.size (Array.replicate ops.toArray.size false) a w.drew):(Code.region id ops.toArray true).wpIn (Fence.wide.inRound l) m P Q a w:=
 wpIn_region_any hm (wD (fun o ho=>List.all_eq_true.1 hp o (by simpa using ho)) hQ _ _ _ _ (wpAny_of_held _ _ _ _ (h hS)))
theorem EN{m m':Nat}{P:Program}{l l':Nat}{f:FuncId}{tmps:Array Value}{assign body:Code}{w:World}{R:Ending→World→Prop}(h:RoundIn Fence.wide m P l f tmps assign body w R):
  RoundIn (Fence.wide.inRound l') m' P l f tmps assign body w R:=⟨trivial,fun c cs _=>h.2 c cs (room_wide _)⟩
structure aW(T:TypeId)(K:Nat→Prop)(B:Nat)(W W':World):Prop where
 os:W'.os=W.os
 tape:W'.tape=W.tape
 output:W'.output=W.output
 size:W.heap.size≤W'.heap.size
 same:∀k o,W.heap[k]? =some o→(K k∨(B≤k∧kindOf o≠some T))→W'.heap[k]? =some o
theorem aW.refl(T:TypeId)(K:Nat→Prop)(B:Nat)(W:World):aW T K B W W:=⟨rfl,rfl,rfl,Nat.le_refl _,fun _ _ h _=>h⟩
theorem aW.trans{T:TypeId}{K:Nat→Prop}{B:Nat}{X Y Z:World}(h:aW T K B X Y)(k:aW T K B Y Z):aW T K B X Z:=
 ⟨k.os.trans h.os,k.tape.trans h.tape,k.output.trans h.output,Nat.le_trans h.size k.size,fun i o hi hK=>k.same i o (h.same i o hi hK) hK⟩
theorem aW.weak{T:TypeId}{K K':Nat→Prop}{B B':Nat}{X Y:World}(h:aW T K B X Y)(hK:∀k o,X.heap[k]? =some o→(K' k∨(B'≤k∧kindOf o≠some T))→(K k∨(B≤k∧kindOf o≠some T))):aW T K' B' X Y:=
 ⟨h.os,h.tape,h.output,h.size,fun i o hi hk=>h.same i o hi (hK i o hi hk)⟩
theorem aW.of_below{T:TypeId}{K:Nat→Prop}{B:Nat}{W W':World}(h:Below W.heap.size W W'):aW T K B W W':=⟨h.os,h.tape,h.output,h.size,fun _ _ hi _=>below_block h hi⟩
theorem aW.drew(T:TypeId)(K:Nat→Prop)(B:Nat)(W:World):aW T K B W W.drew:=⟨rfl,rfl,rfl,Nat.le_refl _,fun _ _ h _=>h⟩
theorem aW.only{T:TypeId}{K:Nat→Prop}{B:Nat}{W W':World}{C:Nat→Prop}(h:Only W W' C)(hK:∀k,C k→¬K k)(hB:∀k o,C k→W.heap[k]? =some o→B≤k→kindOf o=some T):aW T K B W W':=
 ⟨h.os,h.tape,h.output,h.size,fun k o ho hk=>by
  by_cases hc:C k
  ·rcases hk with hk|⟨hk,hn⟩
   ·exact absurd hk (hK k hc)
   ·exact absurd (hB k o hc ho hk) hn
  ·exact h.kept ho hc⟩
theorem aW.putObj{T:TypeId}{K:Nat→Prop}{B:Nat}(W:World)(l:Nat)(o:Obj)(hK:¬K l)(hB:l<B):aW T K B W (W.putObj l o):=
 ⟨rfl,rfl,rfl,by simp[World.putObj],fun k _ hk hh=>(World.putObj_heap_other (by
  rintro rfl
  rcases hh with h|h
  ·exact hK h
  ·omega)).trans hk⟩
structure eX(T:TypeId)(B:Nat)(W W':World):Prop where
 gG:Below B W W'
 rows:∀(k:Nat) (o:Obj),W.heap[k]? =some o→kindOf o=some T→W'.heap[k]? =some o
theorem eX.of_below{T:TypeId}{B:Nat}{W W':World}(h:Below W.heap.size W W')(hB:B≤W.heap.size):eX T B W W':=⟨h.mono hB,fun _ _ hk _=>below_block h hk⟩
theorem eX.mono{T:TypeId}{B B':Nat}{W W':World}(h:eX T B W W')(hB:B'≤B):eX T B' W W':=⟨h.gG.mono hB,h.rows⟩
theorem eX.put{T:TypeId}{B l:Nat}{W:World}{o:Obj}(o':Obj)(h:W.heap[l]? =some o)(ho:kindOf o≠some T)(hB:B≤l):eX T B W (W.putObj l o'):=
 ⟨fB _ _ _ _ hB,fun k ok hk hT=>(World.putObj_heap_other (by rintro rfl;rw[h]at hk;cases hk;exact ho hT)).trans hk⟩
def mG{β:Type}(T:TypeId)(B:Nat)(J:β→World→Prop):Prop:=∀s W W',J s W→eX T B W W'→J s W'
theorem iH.toT{β:Type}{T:TypeId}{B:Nat}{J:β→World→Prop}(h:iH B J):mG T B J:=fun s W W' hs hb=>h s W W' hs hb.gG
theorem mG.and{β:Type}{T:TypeId}{B:Nat}{J J':β→World→Prop}(h:mG T B J)(h':mG T B J'):mG T B (fun s W=>J s W∧J' s W):=fun s W W' hs hb=>⟨h s W W' hs.1 hb,h' s W W' hs.2 hb⟩
theorem mG.mono{β:Type}{T:TypeId}{B B':Nat}{J:β→World→Prop}(h:mG T B J)(hB:B≤B'):mG T B' J:=fun s W W' hs hb=>h s W W' hs (hb.mono hB)
def aeG(T:TypeId)(K:Nat→Prop)(B:Nat)(J Jx:World→Prop)(W:World)(e:Ending)(W':World):Prop:=
 aW T K B W W'∧((e= .returned (.bool true)∧J W')∨(e= .returned (.bool false)∧Jx W'))
structure Way(σ α:Type) where
 At:σ→World→Prop
 S:σ→α→Prop
 Nx:σ→σ→Prop
 Ps:σ→σ→Prop
 Start:σ→Prop
 Fin:σ→Prop
def Zk{σ α:Type}(T:TypeId)(P:Program)(g:Nat)(lb:Array Value)(encs:α→Array Value)(M:Way σ α)(K:Nat→Prop)(w:World):Prop:=
 ∀(l:Nat) (J:σ→World→Prop) (Jx:World→Prop) (W:World) (s0:σ),(∀k,K k→k<w.heap.size∧W.heap[k]? =w.heap[k]?)→w.heap.size≤W.heap.size→mG T W.heap.size J→mG T W.heap.size (fun(_:Unit)=>Jx)→
  (∀s V,J s V→M.At s V)→
  (∀s x W1 m,J s W1→W.heap.size≤W1.heap.size→M.S s x→YieldAt Fence.wide m P l (encs x) W1 (aeG T K W.heap.size (fun V=>∃s',M.Nx s s'∧J s' V) Jx W1))→
  (∀s s' W1,J s W1→M.Ps s s'→J s' W1)→
  M.Start s0→J s0 W→
  Calls P g (#[.func (.yield l) #[] #[]]++lb) W fun e W'=>(∃v,e= .returned v)∧((∃s,M.Fin s∧J s W')∨Jx W')
def agW(T:TypeId)(K:Nat→Prop)(B:Nat)(I:World→Prop)(Ix:Code→World→Prop)(W:World):Exit→Act→World→Prop
 | .normal,_,W'=>aW T K B W W'∧I W'
 | .ret,_,W'=>aW T K B W W'∧Ix .ret W'
 | .exit id,_,W'=>aW T K B W W'∧Ix (.exit id) W'
 | .goto t,_,W'=>aW T K B W W'∧Ix (.goto t) W'
 | .panic _,_,_=>False
 | .outgrown,_,_=>False
theorem qC{σ α:Type}{T:TypeId}{P:Program}{n:Nat}{g:Operand}{ps:Array Tmp}{assign body:Code}{Q:Exit→Act→World→Prop}{a:Act}{w:World}{gf:Nat}{lb:Array Value}
  (hg:a.eval g= .func (.func gf) #[] lb)(eg:∀args w,(callFunc gf args).run P w= .ok (.enter gf args) w){encs:α→Array Value}{M:Way σ α}{K:Nat→Prop}{w0:World}(hseq:Zk T P gf lb encs M K w0)
  (hK0:∀k,K k→k<w0.heap.size∧w.heap[k]? =w0.heap[k]?)(hz0:w0.heap.size≤w.heap.size)
  (hps:∀x,(encs x).size=ps.size)(I:σ→World→Prop)(Ix:Code→World→Prop)(hI:mG T w.heap.size I)(hIx:mG T w.heap.size Ix)(hat:∀s V,I s V→M.At s V)
  (s0:σ)(hst:M.Start s0)(h0:I s0 w)
  (Ax:α→Act→World→Prop)(hAx:∀x a',OwnFrom w.heap.size (fun(_:Unit) W=>Ax x a' W))
  (hassign:∀(l:Nat) (s:σ) (x:α) (W:World) (C:Act→World→Prop),I s W→w.heap.size≤W.heap.size→(∀a' W',aW T K w.heap.size W W'→I s W'→Ax x a' W'→C a' W')→
   assign.wpIn (Fence.wide.inRound l) (n-1-1) P (Exit.then C (fun _ _ _=>False)) { tmps:=(ps.zip (encs x)).foldl (fun t (p,v)=>t.setIfInBounds p v) a.tmps,defers:=[] } W)
  (hbody:∀(l:Nat) (s:σ) (x:α) (a':Act) (W:World),I s W→w.heap.size≤W.heap.size→M.S s x→Ax x a' W→body.wpIn (Fence.wide.inRound l) (n-1-1) P (agW T K w.heap.size (fun V=>∃s',M.Nx s s'∧I s' V) Ix W) a' W)
  (aeH:∀(s s':σ) (W:World),I s W→M.Ps s s'→I s' W)
  (hdone:∀(D:Nat) (s:σ) (W:World),w.heap.size≤D→M.Fin s→I s W→W.heap[D]? =some (.deferred (some []))→Q .normal { a with defers:={ target:= .collected D,args:=#[] }::a.defers } W)
  (hstop:∀(D:Nat) (c:Code) (W:World),w.heap.size≤D→Ix c W→W.heap[D]? =some (.deferred (some []))→c.wpIn Fence.wide n P Q { a with defers:={ target:= .collected D,args:=#[] }::a.defers } W):
  (Code.rangeFunc g ps assign body).wpIn Fence.wide n P Q a w:=by
 refine wpIn_rangeFunc fun fn _=>?_
 obtain⟨s,hs⟩:∃s,s=w.heap.size:=⟨_,rfl⟩
 obtain⟨rec,hrec⟩:∃rec:LoopState→Option Code→Loop,rec=fun st pe=>{ state:=st,pending:=pe,fn,tmps:=a.tmps,params:=ps,assign,body,defers:=w.heap.size }:=⟨_,rfl⟩
 obtain⟨W1,hW1⟩:∃W1,W1=(w.alloc (.deferred (some []))).alloc (.loop (rec .ready none)):=⟨_,rfl⟩
 have hz:W1.heap.size=s+2:=by rw[hW1,hs];simp
 have hB1:Below s w W1:=by rw[hW1,hs];exact ak w _ _
 have hL1:W1.heap[s+1]? =some (.loop (rec .ready none)):=by rw[hW1,hs];exact heap_alloc2_new w _ _
 have hD1:W1.heap[s]? =some (.deferred (some [])):=by rw[hW1,hs];exact(Below.heap_alloc _ _ _ (by simp)).trans (World.alloc_heap_new w _)
 rw[←hs]at hz0 hI hIx hAx hassign hbody hdone hstop
 have hK:∀k,K k→k<s:=fun k hk=>by have:=(hK0 k hk).1;omega
 have nK:∀k,s≤k→¬K k:=fun k hk h=>by have:=hK k h;omega
 have nL:¬K (s+1):=nK _ (by omega)
 refine⟨s+1,[{ target:= .collected s,args:=#[] }],W1,{ target:= .fn (.func gf) lb,args:=#[.func (.yield (s+1)) #[] #[]] },W1,gf,#[.func (.yield (s+1)) #[] #[]]++lb,W1,?_,?_,fun _ _=>trivial,?_,fun h=>(by cases h),?_⟩
 ·rw[hW1,hs,hrec];exact run_enterLoop_outer _ _ _ _ _
 ·simp only[resolve,hg]
  simp[go_sem]
 ·simp[invoke,go_sem,eg]
 refine callsIn_wide.2 ((hseq (s+1)
  (fun q W=>I q W∧(W.heap[s+1]? =some (.loop (rec .ready none))∧W.heap[s]? =some (.deferred (some []))))
  (fun W=>∃c,Ix c W∧(W.heap[s+1]? =some (.loop (rec .done (some c)))∧W.heap[s]? =some (.deferred (some []))))
  W1 s0 (fun k hk=>⟨(hK0 k hk).1,(hB1.block k (hK k hk)).trans (hK0 k hk).2⟩) (by omega)
  ((hI.mono (by omega)).and ((iH.and (oF (by omega) _) (oF (by omega) _)).toT))
  (fun _ A B hs hb=>by obtain⟨c,hc,hl,hd⟩:=hs;exact⟨c,hIx c _ _ hc (hb.mono (by omega)),(hb.gG.block _ (by omega)).trans hl,(hb.gG.block _ (by omega)).trans hd⟩)
  (fun q V h=>hat q V h.1)
  ?_ (fun q q' V h hp=>⟨aeH q q' V h.1 hp,h.2⟩) hst ⟨hI _ _ _ h0 (eX.of_below (hs▸hB1) (by omega)),hL1,hD1⟩).mono ?_)
 ·rintro q x W m ⟨hi,hl,hd⟩ hsz hS
  have hy:=run_yield (P:=P) (args:=encs x) hl (by rw[hrec];exact hps x)
  rw[hrec]at hy
  refine⟨fn,_,assign,body,hy,uq (m:=n-1-1) (roundIn_of_wpIn trivial (hassign _ q x W _ hi (by omega) ?_))⟩
  clear hy
  intro a' Wa ka ia xa
  have la:=ka.same _ _ hl (Or.inr ⟨by omega,by simp[kindOf]⟩)
  have da:=ka.same _ _ hd (Or.inr ⟨by omega,by simp[kindOf]⟩)
  have za:=ka.size
  refine⟨_,run_beginRound la (by rw[hrec]),?_⟩
  obtain⟨Wb,uw⟩:∃Wb,Wb=Wa.putObj (s+1) (.loop { rec .ready none with state:= .busy }):=⟨_,rfl⟩
  have zb:Wb.heap.size=Wa.heap.size:=by rw[uw];simp[World.putObj]
  have lb':Wb.heap[s+1]? =some (.loop { rec .ready none with state:= .busy }):=by rw[uw];exact World.putObj_heap_same (by omega)
  have db:Wb.heap[s]? =some (.deferred (some [])):=by rw[uw];exact(World.putObj_heap_other (by omega)).trans da
  have ib:I q Wb:=by rw[uw];exact hI _ _ _ ia (eX.put _ la (by simp[kindOf]) (by omega))
  have xb:Ax x a' Wb:=by rw[uw];exact(hAx x a').putObj (s:=()) _ xa (by omega) la rfl
  have kb:aW T K (s+2) W Wb:=(ka.weak fun k _ _ h=>h.imp id (fun h=>⟨by omega,h.2⟩)).trans (by rw[uw];exact aW.putObj _ _ _ nL (by omega))
  rw[←uw]
  clear uw
  refine wpIn_mono (hbody _ q x a' Wb ib (by omega) hS xb) ?_
  have fin:∀(jump:Option Code) (W3:World),aW T K s Wb W3→(Instr.endRound (s+1) jump).run P W3= .ok (.bool jump.isNone) (W3.putObj (s+1) (.loop (rec (if jump.isNone then .ready else .done) jump)))∧
    (W3.putObj (s+1) (.loop (rec (if jump.isNone then .ready else .done) jump))).heap[s+1]? =some (.loop (rec (if jump.isNone then .ready else .done) jump))∧
    (W3.putObj (s+1) (.loop (rec (if jump.isNone then .ready else .done) jump))).heap[s]? =some (.deferred (some []))∧
    aW T K W1.heap.size W (W3.putObj (s+1) (.loop (rec (if jump.isNone then .ready else .done) jump))):=fun jump W3 k3=>by
   have z3:=k3.size
   have l3:=k3.same _ _ lb' (Or.inr ⟨by omega,by simp[kindOf]⟩)
   have e3:=run_endRound (P:=P) jump l3
   rw[hrec]at e3 ⊢
   refine⟨e3,World.putObj_heap_same (by omega),(World.putObj_heap_other (by omega)).trans (k3.same _ _ db (Or.inr ⟨Nat.le_refl _,by simp[kindOf]⟩)),?_⟩
   rw[hz]
   exact(kb.trans (k3.weak fun k _ _ h=>h.imp id (fun h=>⟨by omega,h.2⟩))).trans (aW.putObj _ _ _ nL (by omega))
  have put:∀(o:Obj) (W3:World),aW T K s Wb W3→eX T s W3 (W3.putObj (s+1) o):=fun o W3 k3=>eX.put _ (k3.same _ _ lb' (Or.inr ⟨by omega,by simp[kindOf]⟩)) (by simp[kindOf]) (by omega)
  rintro e a3 W3 hp
  cases e with
  |normal=>
   obtain⟨k3,q',hq',i3⟩:=hp
   obtain⟨r,l4,d4,k4⟩:=fin none W3 k3
   exact⟨_,_,r,k4, .inl ⟨rfl,q',hq',hI _ _ _ i3 (put _ _ k3),l4,d4⟩⟩
  |ret=>
   obtain⟨k3,i3⟩:=hp
   obtain⟨r,l4,d4,k4⟩:=fin (some .ret) W3 k3
   exact⟨_,_,r,k4, .inr ⟨rfl,_,hIx _ _ _ i3 (put _ _ k3),l4,d4⟩⟩
  |exit id=>
   obtain⟨k3,i3⟩:=hp
   obtain⟨r,l4,d4,k4⟩:=fin (some (.exit id)) W3 k3
   exact⟨_,_,r,k4, .inr ⟨rfl,_,hIx _ _ _ i3 (put _ _ k3),l4,d4⟩⟩
  |goto t=>
   obtain⟨k3,i3⟩:=hp
   obtain⟨r,l4,d4,k4⟩:=fin (some (.goto t)) W3 k3
   exact⟨_,_,r,k4, .inr ⟨rfl,_,hIx _ _ _ i3 (put _ _ k3),l4,d4⟩⟩
  |panic ch=>exact hp.elim
  |outgrown=>exact hp.elim
 ·rintro e W2 ⟨⟨v,rfl⟩,(⟨q,hfin,hi,hl,hd⟩|⟨c,hi,hl,hd⟩)⟩
  ·have e2:=run_endLoop (P:=P) hl (by rw[hrec];simp)
   rw[hrec]at e2
   exact⟨none,_,e2,hdone s q _ (Nat.le_refl _) hfin (hI _ _ _ hi (eX.put _ hl (by simp[kindOf]) (by omega))) ((World.putObj_heap_other (by omega)).trans hd)⟩
  ·have e2:=run_endLoop (P:=P) hl (by rw[hrec];simp)
   rw[hrec]at e2
   exact⟨some c,_,e2,hstop s c _ (Nat.le_refl _) (hIx _ _ _ hi (eX.put _ hl (by simp[kindOf]) (by omega))) ((World.putObj_heap_other (by omega)).trans hd)⟩
end Go.Proofs.YtammlljefhakmaaGreatDoor
