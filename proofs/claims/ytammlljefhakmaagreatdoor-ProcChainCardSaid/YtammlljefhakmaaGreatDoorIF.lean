/- Helps of the proof. No condition. -/
import Derived.Test.YtammlljefhakmaaGreatDoorGA0
import Derived.OwnWalk
import Derived.Deep.RegionHeld3
namespace Go.Proofs.YtammlljefhakmaaGreatDoor
open Go.RowKit
set_option maxRecDepth 100000
section
def pI(n:Int):Bool:=decide (1≤n)&&decide (n≤8)
theorem sM(n:Int):pI n=true↔1≤n∧n≤8:=by simp[pI]
theorem EU(n:Int):(pI n=false∧(n<1∨(1≤n∧8<n)))∨(pI n=true∧1≤n∧n≤8):=by
 cases h:pI n with
 |false=>
  refine Or.inl ⟨rfl,?_⟩
  have:¬pI n=true:=by rw[h];exact Bool.false_ne_true
  rw[sM]at this
  omega
 |true=>exact Or.inr ⟨rfl,(sM n).1 h⟩
structure gH(L:List Int):Prop where
 once:L.Nodup
 num:∀x∈L,1≤x∧x≤8
theorem gH.nil:gH []:=⟨List.nodup_nil,by simp⟩
theorem gH.isNum{L:List Int}(h:gH L){x:Int}(hx:x∈L):pI x=true:=(sM x).2 (h.num x hx)
theorem gH.length{L:List Int}(h:gH L):L.length≤8:=by
 have h1:(L.map fun x=>(x-1).toNat).Pairwise (· ≠ ·):=by
  refine List.pairwise_map.2 ?_
  refine(List.nodup_iff_pairwise_ne.1 h.once).imp_of_mem fun {a b} ha hb hne e=>hne ?_
  have:=h.num a ha
  have:=h.num b hb
  omega
 have h2:=rZ 8 _ h1 (fun x hx=>by
  obtain⟨y,hy,rfl⟩:=List.mem_map.1 hx
  have:=h.num y hy
  omega)
 rwa [List.length_map]at h2
theorem gH.snoc{L:List Int}(h:gH L){n:Int}(hn:pI n=true)(hm:n∉L):gH (L++[n]):=by
 refine⟨?_,fun x hx=>?_⟩
 ·rw[List.nodup_append]
  refine⟨h.once,by simp,fun a ha b hb e=>?_⟩
  simp only[List.mem_singleton]at hb
  subst hb;subst e;exact hm ha
 ·rcases List.mem_append.1 hx with hx|hx
  ·exact h.num x hx
  ·simp only[List.mem_singleton]at hx
   subst hx;exact(sM _).1 hn
theorem gH.room{L:List Int}(h:gH L){n:Int}(hn:pI n=true)(hm:n∉L):L.length<8:=by
 have:=(h.snoc hn hm).length
 rw[List.length_append,List.length_singleton]at this
 omega
theorem gH.tail{x:Int}{r:List Int}(h:gH (x::r)):gH r:=⟨(List.nodup_cons.1 h.once).2,fun y hy=>h.num y (by simp[hy])⟩
theorem gH.head{x:Int}{r:List Int}(h:gH (x::r)):x∉r:=(List.nodup_cons.1 h.once).1
theorem gH.filter{L:List Int}(h:gH L)(p:Int→Bool):gH (L.filter p):=⟨h.once.filter p,fun x hx=>h.num x (List.mem_filter.1 hx).1⟩
def pJ(L:List Int)(n:Int):Int:=if pI n then(if n∈L then 5 else 0)else 2
def jS(L:List Int)(n:Int):List Int:=if pI n then(if n∈L then L else L++[n])else L
def oV(L:List Int)(n:Int):Int:=if pI n then(if n∈L then 0 else 4)else 2
def gu(L:List Int)(n:Int):List Int:=if pI n then L.filter (· !=n)else L
def JR:List Int→Int×Int×List Int
 |[]=>(0,4,[])
 |n::r=>(n,0,r)
def oW:List Int→Int×List Int
 |[]=>(4,[])
 |n::r=>(0,r++[n])
def headA:List Int→Int×Bool
 |[]=>(0,false)
 |n:: _=>(n,true)
theorem gH.drop{L:List Int}(h:gH L)(n:Int):gH (gu L n):=by
 unfold gu
 split
 ·exact h.filter _
 ·exact h
def vG(L:List Int)(n:Int)(k:Nat):Prop:=k≤L.length∧n∉L.take k∧(k<L.length→L.getD k 0=n)
theorem RA{L:List Int}{i:Nat}(h:i<L.length):L.getD i 0∈L:=by
 rw[List.getD_eq_getElem?_getD,List.getElem?_eq_getElem h];exact List.getElem_mem _
theorem vG.there{L:List Int}{n:Int}{k:Nat}(h:vG L n k)(hk:k<L.length):n∈L:=by rw[←h.2.2 hk];exact RA hk
theorem vG.none{L:List Int}{n:Int}{k:Nat}(h:vG L n k)(hk:¬k<L.length):n∉L:=by
 have h1:k=L.length:=by have:=h.1;omega
 have:=h.2.1
 rwa [h1,List.take_length]at this
theorem splitV(L:List Int)(k:Nat)(h:k<L.length):L=L.take k++L.getD k 0::L.drop (k+1):=by
 rw[List.getD_eq_getElem?_getD,List.getElem?_eq_getElem h,Option.getD_some,←List.drop_eq_getElem_cons h,List.take_append_drop]
theorem vG.erase{L:List Int}(hg:gH L){n:Int}{k:Nat}(h:vG L n k)(hk:k<L.length):gu L n=L.eraseIdx k:=by
 have hn:pI n=true:=hg.isNum (h.there hk)
 have e:=splitV L k hk
 rw[h.2.2 hk]at e
 have hnd:=hg.once
 rw[e,List.nodup_append]at hnd
 have h2:=(List.nodup_cons.1 hnd.2.1).1
 rw[gu,if_pos hn,List.eraseIdx_eq_take_drop_succ]
 conv=>lhs;rw[e]
 rw[List.filter_append,List.filter_cons_of_neg (by simp)]
 rw[List.filter_eq_self.2 (fun x hx=>by simp;rintro rfl;exact h.2.1 hx),List.filter_eq_self.2 (fun x hx=>by simp;rintro rfl;exact h2 hx)]
theorem Ng(L:List Int)(k:Nat)(n:Int)(h:k<L.length):n∈L.take (k+1)↔n∈L.take k∨L.getD k 0=n:=by
 rw[List.take_succ_eq_append_getElem h,List.mem_append,List.mem_singleton,List.getD_eq_getElem?_getD,List.getElem?_eq_getElem h,Option.getD_some]
 constructor
 ·rintro(x|x)
  ·exact Or.inl x
  ·exact Or.inr x.symm
 ·rintro(x|x)
  ·exact Or.inl x
  ·exact Or.inr x.symm
structure uX(A:List Int)(h m:Nat)(f:Nat→Int):Prop where
 len:A.length=8
 top:h<8
 many:m≤8
 at_:∀j,j<m→A.getD ((h+j)%8) 0=f j
def Ring(A:List Int)(h:Nat)(L:List Int):Prop:=uX A h L.length (fun j=>L.getD j 0)
theorem EW(A:List Int)(i k:Nat)(x:Int)(hi:i<A.length):(A.set i x).getD k 0=if i=k then x else A.getD k 0:=by
 rw[List.getD_eq_getElem?_getD,List.getElem?_set,List.getD_eq_getElem?_getD]
 by_cases e:i=k
 ·subst e;simp[hi]
 ·simp[e]
theorem Nh(L:List Int)(n:Int)(j:Nat)(h:j≤L.length):(L++[n]).getD j 0=if j=L.length then n else L.getD j 0:=by
 rw[List.getD_eq_getElem?_getD,List.getD_eq_getElem?_getD]
 by_cases e:j=L.length
 ·subst e;simp
 ·rw[List.getElem?_append_left (by omega),if_neg e]
theorem Ring.push{A:List Int}{h:Nat}{L:List Int}(r:Ring A h L)(hm:L.length<8)(n:Int):Ring (A.set ((h+L.length)%8) n) h (L++[n]):=by
 refine⟨by rw[List.length_set];exact r.len,r.top,by rw[List.length_append,List.length_singleton];omega,fun j hj=>?_⟩
 rw[List.length_append,List.length_singleton]at hj
 rw[EW _ _ _ _ (by rw[r.len];omega),Nh _ _ _ (by omega)]
 by_cases e:j=L.length
 ·subst e;simp
 ·rw[if_neg (by omega),if_neg e];exact r.at_ j (by omega)
theorem Ring.pop{A:List Int}{h:Nat}{x:Int}{l:List Int}(r:Ring A h (x::l)):Ring A ((h+1)%8) l:=by
 have hm:=r.many
 rw[List.length_cons]at hm
 refine⟨r.len,by omega,by omega,fun j hj=>?_⟩
 have:=r.at_ (j+1) (by rw[List.length_cons];omega)
 rw[show(h+(j+1))%8=((h+1)%8+j)%8 by omega]at this
 rw[this];simp
theorem Ring.first{A:List Int}{h:Nat}{x:Int}{l:List Int}(r:Ring A h (x::l)):A.getD h 0=x:=by
 have:=r.at_ 0 (by simp)
 rw[Nat.add_zero,Nat.mod_eq_of_lt r.top]at this
 simpa using this
def mI(L:List Int)(p i j:Nat):Int:=if p≤j∧j<i then L.getD (j+1) 0 else L.getD j 0
theorem Ring.moved{A:List Int}{h:Nat}{L:List Int}(r:Ring A h L)(p:Nat):uX A h L.length (mI L p p):=
 ⟨r.len,r.top,r.many,fun j hj=>by rw[mI,if_neg (by omega)];exact r.at_ j hj⟩
theorem uX.move{A:List Int}{h m p i:Nat}{L:List Int}(r:uX A h m (mI L p i))(hp:p≤i)(hi:i+1<m):uX (A.set ((h+i)%8) (A.getD ((h+(i+1))%8) 0)) h m (mI L p (i+1)):=by
 have hm:=r.many
 refine⟨by rw[List.length_set];exact r.len,r.top,r.many,fun j hj=>?_⟩
 rw[EW _ _ _ _ (by rw[r.len];omega)]
 by_cases e:j=i
 ·subst e
  rw[if_pos rfl,r.at_ (j+1) hi,mI,mI,if_neg (by omega),if_pos (by omega)]
 ·rw[if_neg (by omega),r.at_ j hj,mI,mI]
  by_cases e2:p≤j∧j<i
  ·rw[if_pos e2,if_pos (by omega)]
  ·rw[if_neg e2,if_neg (by omega)]
theorem uX.erased{A:List Int}{h m p:Nat}{L:List Int}(r:uX A h m (mI L p (m-1)))(hm:m=L.length)(hp:p<m):Ring A h (L.eraseIdx p):=by
 have hl:(L.eraseIdx p).length=m-1:=by rw[List.length_eraseIdx_of_lt (by omega)];omega
 have h8:=r.many
 refine⟨r.len,r.top,by omega,fun j hj=>?_⟩
 rw[hl]at hj
 rw[r.at_ j (by omega),mI]
 simp only[List.getD_eq_getElem?_getD,List.getElem?_eraseIdx]
 by_cases e:p≤j
 ·rw[if_pos ⟨e,hj⟩,if_neg (by omega)]
 ·rw[if_neg (by omega),if_pos (by omega)]
def lT(L:List Int):List Value:=L.map fun n=> .int .i64 n
theorem bE(L:List Int):(lT L).length=L.length:=by simp[lT]
theorem Ib(L:List Int)(n:Int):lT (L++[n])=lT L++[.int .i64 n]:=by simp[lT]
theorem JU(L:List Int)(i:Nat)(h:i<L.length):(lT L)[i]? =some (.int .i64 (L.getD i 0)):=by simp[lT,h]
end
section
def pK(A:List Int)(h m:Nat)(b:Bool):Array Value:=(lT A++[Value.int .i64 (h:Int),Value.int .i64 (m:Int),Value.bool b]).toArray
theorem VD(A:List Int)(h m:Nat)(b:Bool)(hA:A.length=8)(i:Nat)(hi:i<8):(pK A h m b)[i]? =some (.int .i64 (A.getD i 0)):=by
 rw[pK,List.getElem?_toArray,List.getElem?_append_left (by rw[bE,hA];exact hi),JU A i (by omega)]
theorem RB(A:List Int)(h m:Nat)(b:Bool)(hA:A.length=8):(pK A h m b)[8]? =some (.int .i64 (h:Int)):=by
 rw[pK,List.getElem?_toArray,List.getElem?_append_right (by rw[bE,hA];omega),bE,hA];rfl
theorem RD(A:List Int)(h m:Nat)(b:Bool)(hA:A.length=8):(pK A h m b)[9]? =some (.int .i64 (m:Int)):=by
 rw[pK,List.getElem?_toArray,List.getElem?_append_right (by rw[bE,hA];omega),bE,hA];rfl
theorem RI(A:List Int)(h m:Nat)(b:Bool)(hA:A.length=8):(pK A h m b)[10]? =some (.bool b):=by
 rw[pK,List.getElem?_toArray,List.getElem?_append_right (by rw[bE,hA];omega),bE,hA];rfl
theorem VE(A:List Int)(h m:Nat)(b:Bool)(hA:A.length=8)(i:Nat)(hi:i<8)(n:Int):(pK A h m b).setIfInBounds i (.int .i64 n)=pK (A.set i n) h m b:=by
 apply Array.ext'
 rw[Array.toList_setIfInBounds]
 simp only[pK]
 rw[List.set_append_left _ _ (by rw[bE,hA];exact hi)]
 simp[lT,List.map_set]
theorem Ic(A:List Int)(h m h':Nat)(b:Bool)(hA:A.length=8):(pK A h m b).setIfInBounds 8 (.int .i64 (h':Int))=pK A h' m b:=by
 apply Array.ext'
 rw[Array.toList_setIfInBounds]
 simp only[pK]
 rw[List.set_append_right _ _ (by rw[bE,hA];omega),bE,hA]
 rfl
theorem Ie(A:List Int)(h m m':Nat)(b:Bool)(hA:A.length=8):(pK A h m b).setIfInBounds 9 (.int .i64 (m':Int))=pK A h m' b:=by
 apply Array.ext'
 rw[Array.toList_setIfInBounds]
 simp only[pK]
 rw[List.set_append_right _ _ (by rw[bE,hA];omega),bE,hA]
 rfl
structure pO(w:World)(b:Nat)(A:List Int)(h m:Nat):Prop where
 len:A.length=8
 top:h<8
 many:m≤8
 box:w.heap[b]? =some (.cells (pK A h m true) 166 (0,0))
section
variable {w:World} {b:Nat} {A:List Int} {h m:Nat} (B:pO w b A h m)
include B
theorem pO.at_(i:Nat)(hi:i<8):w.cell? ⟨b,i,none⟩=some (.int .i64 (A.getD i 0)):=by
 rw[cell_of_row w b _ _ _ _ B.box];exact VD A h m true B.len i hi
theorem pO.head:w.cell? ⟨b,8,none⟩=some (.int .i64 (h:Int)):=by
 rw[cell_of_row w b _ _ _ _ B.box];exact RB A h m true B.len
theorem pO.lU:w.cell? ⟨b,9,none⟩=some (.int .i64 (m:Int)):=by
 rw[cell_of_row w b _ _ _ _ B.box];exact RD A h m true B.len
theorem pO.made:w.cell? ⟨b,10,none⟩=some (.bool true):=by
 rw[cell_of_row w b _ _ _ _ B.box];exact RI A h m true B.len
theorem pO.free(i:Nat):w.frozen? ⟨b,i,none⟩=false:=frozen_of_row w b i _ _ B.box
theorem pO.lt:b<w.heap.size:=lt_of_block B.box
theorem pO.below{w':World}(hb:Below w.heap.size w w'):pO w' b A h m:=⟨B.len,B.top,B.many,below_block hb B.box⟩
theorem pO.drewN(n:Nat):pO (w.drewN n) b A h m:=⟨B.len,B.top,B.many,B.box⟩
theorem pO.set(i:Nat)(hi:i<8)(n:Int):pO (w.setCell ⟨b,i,none⟩ (.int .i64 n)) b (A.set i n) h m:=
 ⟨by rw[List.length_set];exact B.len,B.top,B.many,by rw[heap_setCell_same w b i _ _ _ B.box,VE A h m true B.len i hi]⟩
theorem pO.setHead(h':Nat)(hh:h'<8):pO (w.setCell ⟨b,8,none⟩ (.int .i64 (h':Int))) b A h' m:=
 ⟨B.len,hh,B.many,by rw[heap_setCell_same w b 8 _ _ _ B.box,Ic A h m h' true B.len]⟩
theorem pO.setMany(m':Nat)(hm:m'≤8):pO (w.setCell ⟨b,9,none⟩ (.int .i64 (m':Int))) b A h m':=
 ⟨B.len,B.top,hm,by rw[heap_setCell_same w b 9 _ _ _ B.box,Ie A h m m' true B.len]⟩
end
structure xI(w:World)(b:Nat)(L:List Int):Prop where
 good:gH L
 ex:∃A h,Ring A h L∧pO w b A h L.length
theorem xI.below{w w':World}{b:Nat}{L:List Int}(q:xI w b L)(hb:Below w.heap.size w w'):xI w' b L:=⟨q.good,let⟨A,h,r,B⟩:=q.ex;⟨A,h,r,B.below hb⟩⟩
theorem xI.lt{w:World}{b:Nat}{L:List Int}(q:xI w b L):b<w.heap.size:=let⟨_,_,_,B⟩:=q.ex;B.lt
theorem xI.block{w:World}{b:Nat}{L:List Int}(q:xI w b L):∃cs,w.heap[b]? =some (.cells cs 166 (0,0)):=let⟨_,_,_,B⟩:=q.ex;⟨_,B.box⟩
theorem xI.kept{w w':World}{b:Nat}{L:List Int}{r:Option Nat}(q:xI w b L)(hg:w.grownBy w' r)(hne:some b≠r):xI w' b L:=
 ⟨q.good,let⟨A,h,r,B⟩:=q.ex;⟨A,h,r,B.len,B.top,B.many,(hg.block b B.lt hne).trans B.box⟩⟩
def NoQ(w:World)(p:Option Addr):Prop:=p=none∨∃b,p=some ⟨b,0,none⟩∧w.cell? ⟨b,10,none⟩=some (.bool false)
theorem dJ(b:Nat)(m:Bool)(w:World)(h:w.cell? ⟨b,10,none⟩=some (.bool m)):Calls Tryz.prog 100 #[.pointer (some ⟨b,0,none⟩)] w fun e w'=>e= .returned (.bool m)∧w=w':=by
 go_enter Tryz.func100,Tryz.ntmps100
 go_wp2
 go_ret
 exact⟨rfl,rfl⟩
theorem Ig(w:World):Calls Tryz.prog 100 #[.pointer none] w fun e w'=>e= .returned (.bool false)∧w=w':=by
 go_enter Tryz.func100,Tryz.ntmps100
 go_wp2
 go_ret
 exact⟨rfl,rfl⟩
theorem sN(p:Option Addr)(w:World)(h:NoQ w p):Calls Tryz.prog 100 #[.pointer p] w fun e w'=>e= .returned (.bool false)∧w=w':=by
 rcases h with rfl|⟨b,rfl,k⟩
 ·exact Ig w
 ·exact dJ b false w k
set_option maxHeartbeats 400000 in
theorem Bv(b h i k:Nat)(w:World)(hc:w.cell? ⟨b,8,none⟩=some (.int .i64 (h:Int)))(hh:h<8)(hi:i<1000)(hk:(h+i)%8=k):Calls Tryz.prog 101 #[.pointer (some ⟨b,0,none⟩), .int .i64 (i:Int)] w fun e w'=>e= .returned (.pointer (some ⟨b,k,none⟩))∧∃m,w'=w.drewN m:=by
 have hm:((h:Int)+(i:Int)).tmod 8=(k:Int):=by rw[Int.tmod_eq_emod_of_nonneg (by omega)];omega
 have hk8:k<8:=by omega
 go_enter Tryz.func101,Tryz.ntmps101
 go_wp2_with fail
 go_quiet (fail)
 go_wp2
 go_ret
 exact⟨rfl,_,rfl⟩
theorem JV(b:Nat)(n:Int)(w:World)(h:w.cell? ⟨b,10,none⟩=some (.bool true))(hn:n<1∨(1≤n∧8<n)):Calls Tryz.prog 114 #[.pointer (some ⟨b,0,none⟩), .int .i64 n] w fun e w'=>e= .returned (.tuple #[.int .i64 0, .int .i64 2])∧w=w':=by
 have H:=Lib.hid h
 clear h
 rcases hn with h1|⟨h1,h2⟩
 ·have d1:decide (n<1)=true:=decide_eq_true h1
  go_enter Tryz.func114,Tryz.ntmps114
  go_wp2_with(go_at_call 100;refine(dJ b true _ H.out).mono ?_;rintro e w' ⟨rfl,rfl⟩)
  go_ret2
  exact⟨rfl,rfl⟩
 ·have d1:decide (n<1)=false:=decide_eq_false (by omega)
  have d2:decide (8<n)=true:=decide_eq_true h2
  go_enter Tryz.func114,Tryz.ntmps114
  go_wp2_with(go_at_call 100;refine(dJ b true _ H.out).mono ?_;rintro e w' ⟨rfl,rfl⟩)
  go_ret2
  exact⟨rfl,rfl⟩
set_option maxHeartbeats 1000000 in
theorem JW(b:Nat)(A:List Int)(h:Nat)(L:List Int)(n:Int)(w:World)(r:Ring A h L)(B:pO w b A h L.length)(hn:1≤n∧n≤8):Calls Tryz.prog 114 #[.pointer (some ⟨b,0,none⟩), .int .i64 n] w fun e w'=>∃k:Nat,e= .returned (.tuple #[.int .i64 (k:Int), .int .i64 0])∧vG L n k∧∃m,w'=w.drewN m:=by
 have d1:decide (n<1)=false:=decide_eq_false (by omega)
 have d2:decide (8<n)=false:=decide_eq_false (by omega)
 have BX:=Lib.hid B
 have R:=Lib.hid r
 obtain⟨m,hm⟩:∃m,m=L.length:=⟨_,rfl⟩
 rw[←hm]at BX
 have hm8:m≤8:=BX.out.many
 have HM:=Lib.hid hm
 clear r B hm
 go_enter Tryz.func114,Tryz.ntmps114
 go_wp2_with(go_at_call 100;refine(dJ b true _ BX.out.made).mono ?_;rintro e w' ⟨rfl,rfl⟩)
 obtain⟨W,hW⟩:∃W,W=w:=⟨_,rfl⟩
 rw[←hW]at BX
 have HW:=Lib.hid hW
 clear hW
 go_loopw [6] (fun i wr=>∃k:Nat,i= .int .i64 (k:Int)∧k≤m∧n∉L.take k∧∃q,wr=W.drewN q) (fun i _=>m-(intOf i).toNat)
 case atStart=>exact⟨0,rfl,Nat.zero_le _,by simp,0,HW.out.symm⟩
 case round=>
  obtain⟨k,rfl,hk,hno,q,rfl⟩:=hrel
  have NO:=Lib.hid hno
  have cm:=(BX.out.drewN q).lU
  have ch:=Lib.hid (BX.out.drewN q).head
  clear hno
  by_cases hlt:k<m
  ·obtain⟨z,hz⟩:∃z,(h+k)%8=z:=⟨_,rfl⟩
   have AT:=Lib.hid (Bv b h k z (W.drewN q) ch.out BX.out.top (by omega) hz)
   have ck:=BX.out.at_ z (by omega)
   have hx:=R.out.at_ k (by have:=HM.out;omega)
   rw[hz]at hx
   rw[hx]at ck
   have TS:=Ng L k n (by have:=HM.out;omega)
   obtain⟨x,hX⟩:∃x,x=L.getD k 0:=⟨_,rfl⟩
   rw[←hX]at ck TS
   have CK:=Lib.hid ck
   have HX:=Lib.hid hX
   have TS:=Lib.hid TS
   clear hz ck hx hX
   by_cases he:x=n
   ·subst he
    go_wp2_with(go_at_call 101;refine AT.out.mono ?_;rintro e w' ⟨rfl,q2,rfl⟩;have ck:(W.drewN (q+q2)).cell? ⟨b,z,none⟩=some (.int .i64 x):=CK.out)
    go_ret2
    exact⟨k,rfl,⟨by have:=HM.out;omega,NO.out,fun _=>HX.out.symm⟩,q+q2,by rw[←HW.out]⟩
   ·have hb:(x !=n)=true:=by simpa using he
    have hb2:(x==n)=false:=by simpa using he
    have HE:=Lib.hid he
    clear he
    go_wp2_with(go_at_call 101;refine AT.out.mono ?_;rintro e w' ⟨rfl,q2,rfl⟩;have ck:(W.drewN (q+q2)).cell? ⟨b,z,none⟩=some (.int .i64 x):=CK.out)
    go_roundw
    case rel=>exact⟨k+1,by go_num,by omega,fun hh=>by
     rcases TS.out.1 hh with hh|hh
     ·exact NO.out hh
     ·exact HE.out hh,q+q2,by simp⟩
    case measure=>simp[intOf];omega
  ·obtain rfl:k=m:=by omega
   go_wp2
   go_ret2
   exact⟨k,rfl,⟨by have:=HM.out;omega,NO.out,fun h=>by have:=HM.out;omega⟩,q,by rw[←HW.out]⟩
end
section
structure Bw(w w':World)(b:Nat)(L:List Int):Prop where
 st:xI w' b L
 grown:w.grownBy w' (some b)
theorem Bw.stay{w w':World}{b:Nat}{L:List Int}(h:xI w b L)(hb:Below w.heap.size w w'):Bw w w' b L:=⟨h.below hb,aP hb _⟩
theorem Bw.next{w w1 w':World}{b:Nat}{L K:List Int}(h:Bw w w1 b L)(k:Bw w1 w' b K):Bw w w' b K:=⟨k.st,grownBy_trans h.grown k.grown⟩
theorem mY(w:World)(n:Nat):Below w.heap.size w (w.drewN n):=below_drewN (Below.refl _ _) _
theorem Ni:(Tryz.prog.built 166 [(3, .bool true)])=some (pK [0,0,0,0,0,0,0,0] 0 0 true):=by kernel_rfl
theorem wH{ops:Array Oper}{rest:List Oper}{op:Oper}{a:Act}{w:World}{Q:Exit→Act→World→Prop}(hgd:op.guard=none)(ho:op.op= .build 166 #[(3, .const (.bool true))])
  (h:wpList Tryz.prog ops Q rest (a.put op.dst (.agg (pK [0,0,0,0,0,0,0,0] 0 0 true))) w):wpList Tryz.prog ops Q (op::rest) a w:=by
 have hb:=Ni
 have e:(Array.map (fun(p:Nat×Operand)=>(p.1,a.eval p.2)) #[(3, .const (.bool true))]).toList=[(3, .bool true)]:=by simp[go_sem]
 refine wpList_build hgd 166 _ ho (by rw[e,hb];rfl) ?_
 rw[e,hb]
 exact h
theorem Zx(w:World):Calls Tryz.prog 73 #[] w fun e w'=>∃b,e= .returned (.pointer (some ⟨b,0,none⟩))∧xI w' b []∧w.heap.size≤b∧Below w.heap.size w w':=by
 go_enter Tryz.func73,Tryz.ntmps73
 go_wp2_with(refine wH rfl rfl ?_)
 go_ret
 refine⟨_,rfl,⟨gH.nil,[0,0,0,0,0,0,0,0],0,⟨rfl,by omega,by simp,fun j hj=>absurd hj (Nat.not_lt_zero _)⟩,⟨rfl,by omega,by simp,heap_alloc_new w _⟩⟩,Nat.le_refl _,(Below.refl _ _).alloc (Nat.le_refl _) _⟩
set_option maxHeartbeats 1000000 in
theorem Bz(b:Nat)(L:List Int)(n:Int)(w:World)(q:xI w b L):Calls Tryz.prog 58 #[.pointer (some ⟨b,0,none⟩), .int .i64 n] w fun e w'=>e= .returned (.int .i64 (pJ L n))∧Bw w w' b (jS L n):=by
 have Q:=Lib.hid q
 obtain⟨A,h,r,B⟩:=q.ex
 clear q
 rcases EU n with⟨hn,hb⟩|⟨hn,hb⟩
 ·have E:Hid (pJ L n=2∧jS L n=L):=Lib.hid (by simp[pJ,jS,hn])
  have FB:=Lib.hid (JV b n w B.made hb)
  rw[E.out.1,E.out.2]
  clear r B hn hb
  go_enter Tryz.func58,Tryz.ntmps58
  go_wp2_with(go_at_call 114;refine FB.out.mono ?_;rintro e w' ⟨rfl,rfl⟩)
  go_ret
  exact⟨rfl,Bw.stay Q.out (Below.refl _ _)⟩
 ·have FO:=Lib.hid (JW b A h L n w r B hb)
  have R:=Lib.hid r
  obtain⟨m,hm⟩:∃m,m=L.length:=⟨_,rfl⟩
  rw[←hm]at B
  have BX:=Lib.hid B
  have HM:=Lib.hid hm
  have HN:=Lib.hid hn
  clear r B hn hb hm
  go_enter Tryz.func58,Tryz.ntmps58
  go_wp2_with fail
  refine FO.out.mono ?_
  rintro e w' ⟨k,rfl,hf,q,rfl⟩
  have F:=Lib.hid hf
  have cm:=(BX.out.drewN q).lU
  have hkm:k≤m:=by have:=hf.1;have:=HM.out;omega
  clear hf
  by_cases hlt:k<m
  ·have hin:=F.out.there (by have:=HM.out;omega)
   have E:Hid (pJ L n=5∧jS L n=L):=Lib.hid (by simp[pJ,jS,HN.out,hin])
   clear hin
   go_wp2
   go_ret
   exact⟨by rw[E.out.1];rfl,by rw[E.out.2];exact Bw.stay Q.out (mY w q)⟩
  ·have hin:=F.out.none (by have:=HM.out;omega)
   have E:Hid (pJ L n=0∧jS L n=L++[n]):=Lib.hid (by simp[pJ,jS,HN.out,hin])
   have hroom:=Q.out.good.room HN.out hin
   have hg:=Lib.hid (Q.out.good.snoc HN.out hin)
   have hm8:m<8:=by have:=HM.out;omega
   obtain rfl:k=m:=by omega
   obtain⟨z,hz⟩:∃z,(h+k)%8=z:=⟨_,rfl⟩
   have hz8:z<8:=by omega
   have AT:=Lib.hid (Bv b h k z (w.drewN q) (BX.out.drewN q).head BX.out.top (by omega) hz)
   have HZ:=Lib.hid hz
   clear hin hz
   have n1:¬z=9:=by omega
   have n2:¬ 9=z:=by omega
   go_wp2_with(go_at_call 101;refine AT.out.mono ?_;rintro e w' ⟨rfl,q2,rfl⟩;have cz:=(BX.out.drewN (q+q2)).at_ z hz8;have cm:=(BX.out.drewN (q+q2)).lU;have fz:=(BX.out.drewN (q+q2)).free z;have f9:=(BX.out.drewN (q+q2)).free 9)
   go_ret
   rw[E.out.1,E.out.2]
   refine⟨rfl,⟨hg.out,_,h,R.out.push hroom n,?_⟩,?_⟩
   ·have B2:=((BX.out.drewN (q+q2)).set z hz8 n).setMany (k+1) (by omega)
    rw[List.length_append,List.length_singleton,←HM.out,HZ.out]
    exact B2
   ·exact fG (b:=w.drewN (q+q2)) (grownBy_trans (grownBy_setCell _ _ _ _) (grownBy_setCell _ _ _ _)) rfl rfl rfl rfl
theorem VF(p:Option Addr)(w:World)(h:NoQ w p):Calls Tryz.prog 48 #[.pointer p] w fun e w'=>e= .returned (.tuple #[.int .i64 0, .bool false])∧w=w':=by
 have H:=Lib.hid h
 clear h
 go_enter Tryz.func48,Tryz.ntmps48
 go_wp2_with(go_at_call 100;refine(sN p _ H.out).mono ?_;rintro e w' ⟨rfl,rfl⟩)
 go_ret2
 exact⟨rfl,rfl⟩
set_option maxHeartbeats 1000000 in
theorem VG(b:Nat)(L:List Int)(w:World)(q:xI w b L):Calls Tryz.prog 48 #[.pointer (some ⟨b,0,none⟩)] w fun e w'=>e= .returned (.tuple #[.int .i64 (headA L).1, .bool (headA L).2])∧∃m,w'=w.drewN m:=by
 obtain⟨A,h,r,B⟩:=q.ex
 clear q
 cases L with
 |nil=>
  have BX:=Lib.hid B
  have cm:w.cell? ⟨b,9,none⟩=some (.int .i64 0):=B.lU
  clear r B
  go_enter Tryz.func48,Tryz.ntmps48
  go_wp2_with(go_at_call 100;refine(dJ b true _ BX.out.made).mono ?_;rintro e w' ⟨rfl,rfl⟩)
  go_ret2
  exact⟨rfl,0,rfl⟩
 | cons x l=>
  have BX:=Lib.hid B
  obtain⟨m,hm⟩:∃m,(x::l).length=m:=⟨_,rfl⟩
  have hm0:0<m:=by rw[←hm];simp
  rw[hm]at BX
  have hne:((m:Int)==0)=false:=by simp;omega
  have cm:=BX.out.lU
  have hx:=r.first
  have CX:Hid (∀q,(w.drewN q).cell? ⟨b,h,none⟩=some (.int .i64 x)):=Lib.hid (fun q=>by rw[(BX.out.drewN q).at_ h BX.out.top,hx])
  have AT:=Lib.hid (Bv b h 0 h w BX.out.head BX.out.top (by omega) (by have:=BX.out.top;omega))
  clear r B hx hm
  go_enter Tryz.func48,Tryz.ntmps48
  go_wp2_with(first
   |(go_at_call 100;refine(dJ b true _ BX.out.made).mono ?_;rintro e w' ⟨rfl,rfl⟩)
   |(go_at_call 101;refine AT.out.mono ?_;rintro e w' ⟨rfl,q2,rfl⟩;have cx:=CX.out q2))
  go_ret2
  exact⟨rfl,_,rfl⟩
theorem Zy(p:Option Addr)(w:World)(h:NoQ w p):Calls Tryz.prog 105 #[.pointer p] w fun e w'=>e= .returned (.tuple #[.int .i64 0, .int .i64 1])∧w=w':=by
 have H:=Lib.hid h
 clear h
 go_enter Tryz.func105,Tryz.ntmps105
 go_wp2_with(go_at_call 100;refine(sN p _ H.out).mono ?_;rintro e w' ⟨rfl,rfl⟩)
 go_ret2
 exact⟨rfl,rfl⟩
set_option maxHeartbeats 1000000 in
theorem Zz(b:Nat)(L:List Int)(w:World)(q:xI w b L):Calls Tryz.prog 105 #[.pointer (some ⟨b,0,none⟩)] w fun e w'=>e= .returned (.tuple #[.int .i64 (JR L).1, .int .i64 (JR L).2.1])∧Bw w w' b (JR L).2.2:=by
 have Q:=Lib.hid q
 obtain⟨A,h,r,B⟩:=q.ex
 have BX:=Lib.hid B
 have HD:=Lib.hid (VG b L w q)
 clear B q
 cases L with
 | nil=>
  clear r
  simp only[headA,JR]at HD ⊢
  go_enter Tryz.func105,Tryz.ntmps105
  go_wp2_with(first
   |(go_at_call 100;refine(dJ b true _ BX.out.made).mono ?_;rintro e w' ⟨rfl,rfl⟩)
   |(go_at_call 48;refine HD.out.mono ?_;rintro e w' ⟨rfl,q,rfl⟩))
  go_ret2
  exact⟨rfl,Bw.stay Q.out (mY w _)⟩
 | cons x l=>
  simp only[headA,JR]at HD ⊢
  have R:=Lib.hid r.pop
  have hg:=Lib.hid Q.out.good.tail
  obtain⟨m,hm⟩:∃m,l.length=m:=⟨_,rfl⟩
  rw[List.length_cons,hm]at BX
  have hm8:m+1≤8:=BX.out.many
  have hh:=BX.out.top
  obtain⟨z,hz⟩:∃z,(h+1)%8=z:=⟨_,rfl⟩
  have hz8:z<8:=by omega
  have ht:((h:Int)+1).tmod 8=(z:Int):=by rw[Int.tmod_eq_emod_of_nonneg (by omega)];omega
  have HM:=Lib.hid hm
  have HZ:=Lib.hid hz
  clear r hm hz
  go_enter Tryz.func105,Tryz.ntmps105
  go_wp2_with(first
   |(go_at_call 100;refine(dJ b true _ BX.out.made).mono ?_;rintro e w' ⟨rfl,rfl⟩)
   |(go_at_call 48;refine HD.out.mono ?_;rintro e w' ⟨rfl,q,rfl⟩;have ch:=(BX.out.drewN q).head;have cm:(w.drewN q).cell? ⟨b,9,none⟩=some (.int .i64 ((m:Int)+1)):=(BX.out.drewN q).lU;have f8:=(BX.out.drewN q).free 8;have f9:=(BX.out.drewN q).free 9))
  go_ret2
  refine⟨rfl,⟨hg.out,A,z,by rw[←HZ.out];exact R.out,?_⟩,?_⟩
  ·have B2:=((BX.out.drewN q).setHead z hz8).setMany m (by omega)
   rw[HM.out]
   exact B2
  ·exact fG (b:=w.drewN q) (grownBy_trans (grownBy_setCell _ _ _ _) (grownBy_setCell _ _ _ _)) rfl rfl rfl rfl
theorem Pj{b:Nat}{L K:List Int}{n k:Int}(h1:JR L=(n,k,K)){w:World}(q:xI w b L):Calls Tryz.prog 105 #[.pointer (some ⟨b,0,none⟩)] w fun e w'=>e= .returned (.tuple #[.int .i64 n, .int .i64 k])∧Bw w w' b K:=by
 have:=Zz b L w q
 rwa [h1]at this
theorem VH{b:Nat}{L K:List Int}{n k:Int}(h1:pJ L n=k)(h2:jS L n=K){w:World}(q:xI w b L):Calls Tryz.prog 58 #[.pointer (some ⟨b,0,none⟩), .int .i64 n] w fun e w'=>e= .returned (.int .i64 k)∧Bw w w' b K:=by
 subst h1 h2;exact Bz b L n w q
theorem VI(p:Option Addr)(w:World)(h:NoQ w p):Calls Tryz.prog 51 #[.pointer p] w fun e w'=>e= .returned (.int .i64 1)∧w=w':=by
 have H:=Lib.hid h
 clear h
 go_enter Tryz.func51,Tryz.ntmps51
 go_wp2_with(go_at_call 105;refine(Zy p _ H.out).mono ?_;rintro e w' ⟨rfl,rfl⟩)
 go_ret
 exact⟨rfl,rfl⟩
theorem VJ(b:Nat)(L:List Int)(w:World)(q:xI w b L):Calls Tryz.prog 51 #[.pointer (some ⟨b,0,none⟩)] w fun e w'=>e= .returned (.int .i64 (oW L).1)∧Bw w w' b (oW L).2:=by
 have Q:=Lib.hid q
 clear q
 cases L with
 |nil=>
  simp only[oW]
  go_enter Tryz.func51,Tryz.ntmps51
  go_wp2_with(go_at_call 105;refine(Pj (show JR []=(0,4,[])from rfl) Q.out).mono ?_;rintro e w' ⟨rfl,ht⟩;have T:=Lib.hid ht;clear ht)
  go_ret
  exact⟨rfl,T.out⟩
 | cons x l=>
  simp only[oW]
  have hn:=Q.out.good.isNum (x:=x) (by simp)
  have E:Hid (pJ l x=0∧jS l x=l++[x]):=Lib.hid (by simp[pJ,jS,hn,Q.out.good.head])
  clear hn
  go_enter Tryz.func51,Tryz.ntmps51
  go_wp2_with(first
   |(go_at_call 105;refine(Pj (show JR (x::l)=(x,0,l)from rfl) Q.out).mono ?_;rintro e w' ⟨rfl,ht⟩;have T:=Lib.hid ht;clear ht)
   |(go_at_call 58;refine(VH E.out.1 E.out.2 T.out.st).mono ?_;rintro e w2 ⟨rfl,ht⟩;have T2:=Lib.hid (T.out.next ht);clear ht))
  go_ret
  exact⟨rfl,T2.out⟩
end
section
def Nj(h:Nat)(x:Int)(k:Nat):Prop:=∃i:Nat,x=(i:Int)∧i<1000∧(h+i)%8=k
theorem RJ(b h:Nat)(x:Int)(k:Nat)(w:World)(hc:w.cell? ⟨b,8,none⟩=some (.int .i64 (h:Int)))(hh:h<8)(hx:Nj h x k):Calls Tryz.prog 101 #[.pointer (some ⟨b,0,none⟩), .int .i64 x] w fun e w'=>e= .returned (.pointer (some ⟨b,k,none⟩))∧∃m,w'=w.drewN m:=by
 obtain⟨i,rfl,hi,hk⟩:=hx
 exact Bv b h i k w hc hh hi hk
structure JX(w:World)(bx b:Nat)(A:List Int)(h m:Nat):Prop where
 q:pO w b A h m
 cap:w.cell? ⟨bx,0,none⟩=some (.pointer (some ⟨b,0,none⟩))
 ne:bx≠b
theorem JX.drewN{w:World}{bx b h m:Nat}{A:List Int}(c:JX w bx b A h m)(n:Nat):JX (w.drewN n) bx b A h m:=⟨c.q.drewN n,c.cap,c.ne⟩
set_option maxHeartbeats 2000000 in
theorem RO(bx b h m i z z2:Nat)(A:List Int)(w:World)(C:JX w bx b A h m)(hi:i+1<8)(hz:(h+i)%8=z)(hz2:(h+(i+1))%8=z2):
  Calls Tryz.prog 115 #[.int .i64 (i:Int), .pointer (some ⟨bx,0,none⟩)] w fun e w'=>e= .returned (.tuple #[])∧JX w' bx b (A.set z (A.getD z2 0)) h m∧w.grownBy w' (some b):=by
 have CC:=Lib.hid C
 have hh:=C.q.top
 have hz8:z<8:=by omega
 have ah6:z2<8:=by omega
 have n1:¬z=z2:=by omega
 have n2:¬z2=z:=by omega
 have n3:¬bx=b:=C.ne
 have n4:¬b=bx:=fun e=>n3 e.symm
 obtain⟨I,hI⟩:∃I:Int,I=(i:Int):=⟨_,rfl⟩
 have P1:Hid (Nj h I z):=Lib.hid ⟨i,hI,by omega,hz⟩
 obtain⟨J,hJ⟩:∃J:Int,J=((i+1:Nat):Int):=⟨_,rfl⟩
 have P2:Hid (Nj h J z2):=Lib.hid ⟨i+1,hJ,by omega,hz2⟩
 have hw:IntKind.i64.wrap (I+1)=J:=by rw[IntKind.wrap_i64];omega
 have hI0:0≤I:=by omega
 have hI8:I<8:=by omega
 rw[←hI]
 have cap:=C.cap
 have cz:=C.q.at_ z hz8
 have c2:=C.q.at_ z2 ah6
 have fz:=C.q.free z
 generalize A.getD z2 0=y at c2 ⊢
 clear hI hJ hi hz hz2 C
 go_enter Tryz.func115,Tryz.ntmps115
 go_wp2_with fail
 go_region_held3 (fun w'=>w'.cell? ⟨bx,0,none⟩=some (.pointer (some ⟨b,0,none⟩))∧w'.cell? ⟨b,z2,none⟩=some (.int .i64 y)) (first|(go_keep;done)|(refine⟨?_,?_⟩<;>simp[*,World.cell?_setCell_other]))
  (first
   |(go_at_call 101;refine(RJ b h _ _ _ (by exact CC.out.q.head) hh (by first|exact P1.out|exact P2.out)).mono ?_;rintro e w2 ⟨rfl,q2,rfl⟩))
 go_wp2
 go_end0
 refine⟨rfl,⟨(CC.out.q.drewN _).set z hz8 y,?_,n3⟩,fG (b:=w.drewN _) (grownBy_setCell _ _ _ _) rfl rfl rfl rfl⟩
 rw[World.cell?_setCell_far _ _ _ _ (fun e=>n4 e)]
 exact CC.out.cap
set_option maxHeartbeats 2000000 in
theorem VK(b:Nat)(L:List Int)(n:Int)(w:World)(q:xI w b L):Calls Tryz.prog 55 #[.pointer (some ⟨b,0,none⟩), .int .i64 n] w fun e w'=>e= .returned (.int .i64 (oV L n))∧Bw w w' b (gu L n):=by
 have pE:∀(fn:Fn) (first cap:Array Value) (w:World),(Instr.makeFunc fn first cap).run Tryz.prog w= .ok (.func fn first cap) w:=fun _ _ _ _=>rfl
 obtain⟨w1,hw1⟩:∃w1,w1=w.alloc (.cells #[.pointer (some ⟨b,0,none⟩)] 35):=⟨_,rfl⟩
 have B1:Hid (Below w.heap.size w w1):=Lib.hid (by rw[hw1];exact(Below.refl _ _).alloc (Nat.le_refl _) _)
 have Q1:=Lib.hid (q.below B1.out)
 have ST:Hid (∀{w':World} {K:List Int},Bw w1 w' b K→Bw w w' b K):=Lib.hid (fun h=>⟨h.st,grownBy_trans (aP B1.out _) h.grown⟩)
 obtain⟨A,h,r,B⟩:=Q1.out.ex
 have cap:w1.cell? ⟨w.heap.size,0,none⟩=some (.pointer (some ⟨b,0,none⟩)):=by rw[hw1,cell_of_row _ _ _ _ _ _ (heap_alloc_new w _)];rfl
 have ne:w.heap.size≠b:=by have:=q.lt;omega
 have CAP:Hid (JX w1 w.heap.size b A h L.length):=Lib.hid ⟨B,cap,ne⟩
 clear q ne
 rcases EU n with⟨hn,hb⟩|⟨hn,hb⟩
 ·have E:Hid (oV L n=2∧gu L n=L):=Lib.hid (by simp[oV,gu,hn])
  have FB:=Lib.hid (JV b n w1 B.made hb)
  rw[E.out.1,E.out.2]
  clear r B hn hb
  go_enter Tryz.func55,Tryz.ntmps55
  go_wp2_with fail
  rw[←hw1]
  clear hw1
  refine FB.out.mono ?_
  rintro e w' ⟨rfl,rfl⟩
  go_wp2
  go_ret
  exact⟨rfl,ST.out (Bw.stay Q1.out (Below.refl _ _))⟩
 ·have FO:=Lib.hid (JW b A h L n w1 r B hb)
  have R:=Lib.hid r
  obtain⟨m,hm⟩:∃m,m=L.length:=⟨_,rfl⟩
  rw[←hm]at CAP
  have HM:=Lib.hid hm
  have HN:=Lib.hid hn
  have hm8:m≤8:=CAP.out.q.many
  clear r B hn hb hm
  go_enter Tryz.func55,Tryz.ntmps55
  go_wp2_with fail
  rw[←hw1]
  clear hw1
  refine FO.out.mono ?_
  rintro e w' ⟨k,rfl,hf,q,rfl⟩
  have F:=Lib.hid hf
  obtain⟨bx,hbx⟩:∃bx,bx=w.heap.size:=⟨_,rfl⟩
  rw[←hbx]at CAP cap ⊢
  have C2:=Lib.hid (CAP.out.drewN q)
  have cm:=C2.out.q.lU
  have cb:=C2.out.cap
  have hkm:k≤m:=by have:=hf.1;have:=HM.out;omega
  clear hf hbx cap
  by_cases hlt:k<m
  ·have hin:=F.out.there (by have:=HM.out;omega)
   have E:Hid (oV L n=0∧gu L n=L.eraseIdx k):=Lib.hid ⟨by simp[oV,HN.out,hin],F.out.erase Q1.out.good (by have:=HM.out;omega)⟩
   have hg:=Lib.hid (Q1.out.good.drop n)
   obtain⟨p,rfl⟩:∃p,m=p+1:=⟨m-1,by omega⟩
   have hne:((k:Int)==(p:Int)+1)=false:=by simp;omega
   have cm:(w1.drewN q).cell? ⟨b,9,none⟩=some (.int .i64 ((p:Int)+1)):=C2.out.q.lU
   have f9:=C2.out.q.free 9
   obtain⟨w3,hw3⟩:∃w3,w3=(w1.drewN q).setCell ⟨b,9,none⟩ (.int .i64 (p:Int)):=⟨_,rfl⟩
   have C3:Hid (JX w3 bx b A h p):=Lib.hid (by
    rw[hw3]
    exact⟨C2.out.q.setMany p (by omega),by rw[World.cell?_setCell_far _ _ _ _ (fun e=>C2.out.ne e.symm)];exact C2.out.cap,C2.out.ne⟩)
   have G3:Hid (w1.grownBy w3 (some b)):=Lib.hid (by rw[hw3];exact fG (b:=w1.drewN q) (grownBy_setCell _ _ _ _) rfl rfl rfl rfl)
   have R3:Hid (uX A h (p+1) (mI L k k)):=Lib.hid (by rw[HM.out];exact R.out.moved k)
   clear hin
   go_wp2_with fail
   rw[←hw3]
   clear hw3 cm cb f9 hne
   go_loopw [5] (fun i wr=>∃j:Nat,i= .int .i64 (j:Int)∧k≤j∧j≤p∧∃A',uX A' h (p+1) (mI L k j)∧JX wr bx b A' h p∧w1.grownBy wr (some b)) (fun i _=>p-(intOf i).toNat)
   case atStart=>exact⟨k,rfl,Nat.le_refl _,by omega,A,R3.out,C3.out,G3.out⟩
   case round=>
    obtain⟨j,rfl,hj,hjp,A',hr,hc,hgr⟩:=hrel
    have RR:=Lib.hid hr
    have CR:=Lib.hid hc
    have GR:=Lib.hid hgr
    have cm:=CR.out.q.lU
    have cb:=CR.out.cap
    clear hr hc hgr
    by_cases hjl:j<p
    ·have MV:=Lib.hid (RO bx b h p j _ _ A' wr CR.out (by omega) rfl rfl)
     go_wp2_with(go_at_call 115;refine MV.out.mono ?_;rintro e w5 ⟨rfl,hc,hgr⟩;have C5:=Lib.hid hc;have G5:=Lib.hid (grownBy_trans GR.out hgr);clear hc hgr)
     go_roundw
     case rel=>exact⟨j+1,by go_num,by omega,by omega,_,RR.out.move hj (by omega),C5.out,G5.out⟩
     case measure=>simp[intOf];omega
    ·obtain rfl:j=p:=by omega
     go_wp2
     go_ret
     refine⟨by rw[E.out.1];rfl,ST.out ⟨⟨hg.out,A',h,?_,?_⟩,GR.out⟩⟩
     ·rw[E.out.2];exact uX.erased (m:=j+1) RR.out HM.out (by omega)
     ·have hl:(gu L n).length=j:=by rw[E.out.2,List.length_eraseIdx_of_lt (by have:=HM.out;omega),←HM.out];rfl
      rw[hl];exact CR.out.q
  ·have hin:=F.out.none (by have:=HM.out;omega)
   have E:Hid (oV L n=4∧gu L n=L):=Lib.hid ⟨by simp[oV,HN.out,hin],by
    rw[gu,if_pos HN.out];exact List.filter_eq_self.2 (fun x hx=>by simp;rintro rfl;exact hin hx)⟩
   obtain rfl:k=m:=by omega
   clear hin
   go_wp2
   go_ret
   exact⟨by rw[E.out.1];rfl,by rw[E.out.2];exact ST.out (Bw.stay Q1.out (mY w1 q))⟩
end
section
theorem VL:(Tryz.prog.info? 3).map (fun i=>(i.zero,i.size,i.bytes))=some (some (.int .i64 0),1,8):=by kernel_rfl
theorem ZC(w:World)(u:Value)(t:TypeId):∀(j:Nat) (x:Value),[u][j]? =some x→(w.alloc (.cells #[u] t)).cell? ((⟨w.heap.size,0,none⟩:Addr).add j)=some x:=fun j x hx=>by
 rw[Addr.add_mid,cell_of_row _ _ _ _ _ _ (heap_alloc_new w _)]
 match j,hx with
 |0,hx=>exact hx
 |j+1,hx=>simp at hx
abbrev VN(w:World)(base:Nat)(v:Value)(L:List Int):Prop:=w.ownsRow base 3 1 v L.length (lT L)
def JY(w:World)(L:List Int)(e:Ending)(w':World):Prop:=∃v,e= .returned v∧VN w' w.heap.size v L∧Below w.heap.size w w'
theorem Nk(L:List Int)(k:Nat)(h:k<L.length):L.take (k+1)=L.take k++[L.getD k 0]:=by
 rw[List.take_succ_eq_append_getElem h,List.getD_eq_getElem?_getD,List.getElem?_eq_getElem h];rfl
theorem ZE(p:Option Addr)(w:World)(h:NoQ w p):Calls Tryz.prog 63 #[.pointer p] w fun e w'=>e= .returned (.slice none 0 0)∧w=w':=by
 have H:=Lib.hid h
 clear h
 go_enter Tryz.func63,Tryz.ntmps63
 go_wp2_with(go_at_call 100;refine(sN p _ H.out).mono ?_;rintro e w' ⟨rfl,rfl⟩)
 go_ret
 exact⟨rfl,rfl⟩
set_option maxHeartbeats 2000000 in
theorem ZF(b:Nat)(L:List Int)(w:World)(q:xI w b L):Calls Tryz.prog 63 #[.pointer (some ⟨b,0,none⟩)] w (JY w L):=by
 obtain⟨ii,hi,hi0,hi1,hi2⟩:=info_parts VL
 obtain⟨A,h,r,B⟩:=q.ex
 have R:=Lib.hid r
 obtain⟨m,hm⟩:∃m,m=L.length:=⟨_,rfl⟩
 rw[←hm]at B
 have BX:=Lib.hid B
 have HM:=Lib.hid hm
 have hm8:m≤8:=B.many
 have cm:=B.lU
 clear q r B hm
 go_enter Tryz.func63,Tryz.ntmps63
 go_wp2_with(go_at_call 100;refine(dJ b true _ BX.out.made).mono ?_;rintro e w' ⟨rfl,rfl⟩)
 go_loopw [3,12] (fun l i wr=>∃k:Nat,i= .int .i64 (k:Int)∧k≤m∧VN wr w.heap.size l (L.take k)∧Below w.heap.size w wr) (fun _ i _=>m-(intOf i).toNat)
 case atStart=>exact⟨0,rfl,Nat.zero_le _,World.ownsRow_nil _ _ _ _,Below.refl _ _⟩
 case round=>
  obtain⟨k,rfl,hk,ho,hb⟩:=hrel
  have O:=Lib.hid ho
  have BB:=Lib.hid hb
  clear ho hb
  by_cases hlt:k<m
  ·obtain⟨z,hz⟩:∃z,(h+k)%8=z:=⟨_,rfl⟩
   have BR:=Lib.hid (BX.out.below BB.out)
   have AT:=Lib.hid (Bv b h k z wr BR.out.head BR.out.top (by omega) hz)
   have hx:=R.out.at_ k (by have:=HM.out;omega)
   have ck:=BR.out.at_ z (by omega)
   rw[hz]at hx
   rw[hx]at ck
   have TS:=Nk L k (by have:=HM.out;omega)
   have htl:(L.take k).length=k:=by rw[List.length_take];have:=HM.out;omega
   have ajs:True:=trivial
   obtain⟨x,hX⟩:∃x,x=L.getD k 0:=⟨_,rfl⟩
   rw[←hX]at ck TS
   have CK:=Lib.hid ck
   have TS:=Lib.hid TS
   clear hz hx ck hX
   go_wp2_with(first
    |(go_at_call 101;refine AT.out.mono ?_;rintro e w5 ⟨rfl,q2,hq2⟩;have ck5:w5.cell? ⟨b,z,none⟩=some (.int .i64 x):=(by rw[hq2];exact CK.out);have O2:Hid (VN (w5.alloc (.cells #[.int .i64 x] 3)) w.heap.size u3 (L.take k)):=Lib.hid (World.ownsRow.alloc (by rw[hq2];exact gN O.out (mY wr q2)) _);have B5:Hid (Below w.heap.size w w5):=Lib.hid (by rw[hq2];exact below_drewN BB.out q2);have B2:=Lib.hid (B5.out.alloc B5.out.size (.cells #[.int .i64 x] 3));clear hq2)
    |(at_builtin;refine wpList_append_own _ rfl (.tmp 15) (.tmp 21) 54 rfl w.heap.size 3 ii (.int .i64 0) 1 8 Tryz.underlying54 hi hi0 hi1 hi2 rfl (by decide) _ (L.take k).length _ rfl O2.out ⟨w5.heap.size,0,none⟩ 1 1 [.int .i64 x] rfl rfl (ZC w5 _ _) (by simp[Value.oneCell']) (by unfold maxLen;omega) (by omega) B2.out.size ?_;intro v3 w3 ho hg _))
   have O3:Hid (VN w3 w.heap.size v3 (L.take (k+1))):=Lib.hid (by unfold VN;rw[TS.out,Ib,List.length_append];exact ho)
   have B3:=Lib.hid (B2.out.grown hg B2.out.size (fun k hk=>(O2.out.lt k hk).1))
   clear ho hg
   go_wp2
   go_roundw
   case rel=>exact⟨k+1,by go_num,by omega,O3.out,B3.out⟩
   case measure=>simp[intOf];omega
  ·obtain rfl:k=m:=by omega
   go_wp2
   go_ret
   exact⟨_,rfl,by have:=O.out;rwa [HM.out,List.take_length]at this,BB.out⟩
end
end Go.Proofs.YtammlljefhakmaaGreatDoor
