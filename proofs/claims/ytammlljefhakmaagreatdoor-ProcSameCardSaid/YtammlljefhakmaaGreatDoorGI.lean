/- Helps of the proof. No condition. -/
import Derived.Test.YtammlljefhakmaaGreatDoorGC
import Derived.Test.YtammlljefhakmaaGreatDoorGI1
import Derived.Laws.Bits64b
import Derived.OwnWalk
import Derived.Laws.BitsAllLaws
namespace Go.Proofs.YtammlljefhakmaaGreatDoor
open Go.RowKit
set_option maxRecDepth 100000
section
def dI(L:List Nat):List Value:=(List.range 16).map fun i=> .int .u64 (word L i:Int)
theorem bJ(L:List Nat):(dI L).length=16:=by simp[dI]
theorem mU(L:List Nat)(i:Nat)(h:i<16):(dI L)[i]? =some (.int .u64 (word L i:Int)):=by
 simp[dI,h]
theorem El(L K:List Nat)(k:Nat)(x:Nat)(hk:word K k=x)(ho:∀i,i≠k→word K i=word L i):(dI L).set k (.int .u64 (x:Int))=dI K:=by
 apply List.ext_getElem?
 intro i
 rw[List.getElem?_set]
 by_cases h:i<16
 ·rw[mU K i h,bJ]
  by_cases hik:k=i
  ·subst hik;rw[if_pos rfl,if_pos h,hk]
  ·rw[if_neg hik,mU L i h,ho i (fun e=>hik e.symm)]
 ·have h1:(dI L)[i]? =none:=List.getElem?_eq_none (by rw[bJ];omega)
  have h2:(dI K)[i]? =none:=List.getElem?_eq_none (by rw[bJ];omega)
  rw[h1,h2,bJ]
  split
  ·rw[if_neg (by omega)]
  ·rfl
def xG(L:List Nat)(m:Bool):Array Value:=(dI L++[Value.bool m]).toArray
theorem Ua(L:List Nat)(m:Bool)(i:Nat)(h:i<16):(xG L m)[i]? =some (.int .u64 (word L i:Int)):=by
 rw[xG,List.getElem?_toArray,List.getElem?_append_left (by rw[bJ];exact h),mU L i h]
theorem PK(L:List Nat)(m:Bool):(xG L m)[16]? =some (.bool m):=by
 rw[xG,List.getElem?_toArray,List.getElem?_append_right (by rw[bJ];exact Nat.le_refl _),bJ];rfl
theorem Jb(L K:List Nat)(m:Bool)(k x:Nat)(hk:k<16)(h:word K k=x)(ho:∀i,i≠k→word K i=word L i):(xG L m).setIfInBounds k (.int .u64 (x:Int))=xG K m:=by
 apply Array.ext'
 rw[Array.toList_setIfInBounds]
 simp only[xG]
 rw[List.set_append_left _ _ (by rw[bJ];exact hk),El L K k x h ho]
structure dP(w:World)(b:Nat)(L:List Nat):Prop where
 good:Good L
 box:w.heap[b]? =some (.cells (xG L true) 231 (0,0))
theorem dP.below{w w':World}{b:Nat}{L:List Nat}(h:dP w b L)(hb:Below w.heap.size w w'):dP w' b L:=⟨h.good,below_block hb h.box⟩
theorem dP.lt{w:World}{b:Nat}{L:List Nat}(h:dP w b L):b<w.heap.size:=lt_of_block h.box
theorem dP.kept{w w':World}{b:Nat}{L:List Nat}{r:Option Nat}(h:dP w b L)(hg:w.grownBy w' r)(hne:some b≠r):dP w' b L:=⟨h.good,(hg.block b h.lt hne).trans h.box⟩
theorem dP.cell{w:World}{b:Nat}{L:List Nat}(h:dP w b L)(i:Nat)(hi:i<16):w.cell? ⟨b,i,none⟩=some (.int .u64 (word L i:Int)):=by
 rw[cell_of_row w b _ _ _ _ h.box];exact Ua L true i hi
theorem dP.made{w:World}{b:Nat}{L:List Nat}(h:dP w b L):w.cell? ⟨b,16,none⟩=some (.bool true):=by
 rw[cell_of_row w b _ _ _ _ h.box];exact PK L true
theorem dP.free{w:World}{b:Nat}{L:List Nat}(h:dP w b L)(i:Nat):w.frozen? ⟨b,i,none⟩=false:=frozen_of_row w b i _ _ h.box
theorem Gu(n:Int)(w:World):Calls Tryz.prog 176 #[.int .i64 n] w fun e w'=>e= .returned (.bool (decide (0≤n)&&decide (n<1024)))∧w=w':=by
 by_cases h0:0≤n
 ·have d0:decide (0≤n)=true:=decide_eq_true h0
  by_cases h1:n<1024
  ·have d1:decide (n<1024)=true:=decide_eq_true h1
   go_enter Tryz.func176,Tryz.ntmps176
   go_wp2
   go_ret
   exact⟨by rw[d0,d1];rfl,rfl⟩
  ·have d1:decide (n<1024)=false:=decide_eq_false h1
   go_enter Tryz.func176,Tryz.ntmps176
   go_wp2
   go_ret
   exact⟨rfl,rfl⟩
 ·have d0:decide (0≤n)=false:=decide_eq_false h0
  go_enter Tryz.func176,Tryz.ntmps176
  go_wp2
  go_ret
  exact⟨rfl,rfl⟩
theorem r9(n:Int)(b:Bool)(h:(decide (0≤n)&&decide (n<1024))=b)(w:World):Calls Tryz.prog 176 #[.int .i64 n] w fun e w'=>e= .returned (.bool b)∧w=w':=by
 have:=Gu n w
 rwa [h]at this
theorem kD(b:Nat)(m:Bool)(w:World)(h:w.cell? ⟨b,16,none⟩=some (.bool m)):Calls Tryz.prog 233 #[.pointer (some ⟨b,0,none⟩)] w fun e w'=>e= .returned (.bool m)∧w=w':=by
 go_enter Tryz.func233,Tryz.ntmps233
 go_wp2
 go_ret
 exact⟨rfl,rfl⟩
theorem Em(b:Nat)(L:List Nat)(n:Int)(w:World)(h:dP w b L)(hn:¬(0≤n∧n<1024)):Calls Tryz.prog 218 #[.pointer (some ⟨b,0,none⟩), .int .i64 n] w fun e w'=>e= .returned (.tuple #[.pointer none, .int .u64 0, .int .i64 2])∧w=w':=by
 have H:=Lib.hid h
 have HN:Hid ((decide (0≤n)&&decide (n<1024))=false):=Lib.hid (by rw[←Bool.not_eq_true];simpa using hn)
 clear h hn
 go_enter Tryz.func218,Tryz.ntmps218
 go_wp2_with(first
  |(go_at_call 233;refine(kD b true _ H.out.made).mono ?_;rintro e w' ⟨rfl,rfl⟩)
  |(go_at_call 176;refine(r9 n _ HN.out _).mono ?_;rintro e w' ⟨rfl,rfl⟩))
 go_ret3
 exact⟨rfl,rfl⟩
theorem Jc(b:Nat)(L:List Nat)(n:Nat)(w:World)(h:dP w b L)(hn:n<1024):Calls Tryz.prog 218 #[.pointer (some ⟨b,0,none⟩), .int .i64 n] w fun e w'=>e= .returned (.tuple #[.pointer (some ⟨b,n/64,none⟩), .int .u64 ((2^(n%64):Nat):Int), .int .i64 0])∧∃m,w'=w.drewN m:=by
 have H:=Lib.hid h
 have HN:Hid ((decide (0≤(n:Int))&&decide ((n:Int)<1024))=true):=Lib.hid (by rw[Bool.and_eq_true];exact⟨by simp,by simp;omega⟩)
 have hd:(n:Int).tdiv 64=((n/64:Nat):Int):=by rw[Int.tdiv_eq_ediv_of_nonneg (by omega)];omega
 have hm:(n:Int).tmod 64=((n%64:Nat):Int):=by rw[Int.tmod_eq_emod_of_nonneg (by omega)];omega
 have hk:n/64<16:=by omega
 have hj:n%64<64:=by omega
 have hp:IntKind.u64.wrap (2^(n%64))=((2^(n%64):Nat):Int):=by
  have:2^(n%64)<2^64:=Nat.pow_lt_pow_of_lt (by decide) hj
  have e:((2:Int)^(n%64))=((2^(n%64):Nat):Int):=by simp
  rw[e,IntKind.wrap_u64]
  generalize 2^(n%64)=x at*
  omega
 generalize n/64=k at*
 generalize n%64=j at*
 clear h
 go_enter Tryz.func218,Tryz.ntmps218
 go_wp2_with(first
  |(go_at_call 233;refine(kD b true _ H.out.made).mono ?_;rintro e w' ⟨rfl,rfl⟩)
  |(go_at_call 176;refine(r9 n _ HN.out _).mono ?_;rintro e w' ⟨rfl,rfl⟩))
 go_quiet (fail)
 go_wp2
 go_ret3
 exact⟨rfl,_,rfl⟩
end
section
structure Turn(w w':World)(b:Nat)(L:List Nat):Prop where
 st:dP w' b L
 grown:w.grownBy w' (some b)
theorem Turn.stay{w w':World}{b:Nat}{L:List Nat}(h:dP w b L)(hb:Below w.heap.size w w'):Turn w w' b L:=⟨h.below hb,aW hb _⟩
theorem Turn.below{B:Nat}{a w w':World}{b:Nat}{L:List Nat}(h:Below B a w)(k:Turn w w' b L)(hw:B≤w.heap.size)(hb:B≤b):Below B a w':=h.trans (kU k.grown hw hb)
def vV(n:Int):Bool:=decide (0≤n)&&decide (n<1024)
theorem pF(n:Int):vV n=true↔0≤n∧n<1024:=by simp[vV]
def AQ(L:List Nat)(n:Int):Int:=if vV n then(if n.toNat∈L then 5 else 0)else 2
def AU(L:List Nat)(n:Int):List Nat:=if vV n then(if n.toNat∈L then L else ins L n.toNat)else L
def vW(L:List Nat)(n:Int):Int:=if vV n then(if n.toNat∈L then 0 else 4)else 2
def vX(L:List Nat)(n:Int):List Nat:=if vV n then(if n.toNat∈L then del L n.toNat else L)else L
theorem Xy(n:Int)(h:vV n=true):∃k:Nat,n=k∧k<1024∧n.toNat=k:=by
 obtain⟨h0,h1⟩:=(pF n).1 h
 obtain⟨k,rfl⟩:=Int.eq_ofNat_of_zero_le h0
 exact⟨k,rfl,by omega,by simp⟩
theorem En(L:List Nat)(n:Int):(vV n=false∧¬(0≤n∧n<1024))∨∃k:Nat,n=k∧vV n=true∧n.toNat=k∧k<1024∧∃x y:Nat,word L (k/64)=x∧2^(k%64)=y∧x<18446744073709551616∧y<18446744073709551616∧0<y∧x &&& y=if k∈L then y else 0:=by
 cases h:vV n with
 |false=>exact Or.inl ⟨rfl,fun hn=>by rw[(pF n).2 hn]at h;cases h⟩
 |true=>
  obtain⟨k,rfl,h1,h2⟩:=Xy n h
  exact Or.inr ⟨k,rfl,rfl,h2,h1,_,_,rfl,rfl,word_lt L _,Nat.pow_lt_pow_of_lt (m:=64) (by decide) (Nat.mod_lt _ (by decide)),Nat.two_pow_pos _,TP L k⟩
set_option maxHeartbeats 800000 in
theorem Nr(b:Nat)(L:List Nat)(n:Int)(w:World)(h:dP w b L):Calls Tryz.prog 177 #[.pointer (some ⟨b,0,none⟩), .int .i64 n] w fun e w'=>e= .returned (.int .i64 (AQ L n))∧Turn w w' b (AU L n):=by
 have H:=Lib.hid h
 clear h
 rcases En L n with⟨hn,hbad⟩|⟨k,rfl,hn,hk,hk2,x,y,hx,hy,hx1,hy1,hy0,hand⟩
 ·have e1:Hid (AQ L n=2∧AU L n=L):=Lib.hid (by simp[AQ,AU,hn])
  have HB:=Lib.hid hbad
  clear hbad
  go_enter Tryz.func177,Tryz.ntmps177
  go_wp2_with(go_at_call 218;refine(Em b L n _ H.out HB.out).mono ?_;rintro e w' ⟨rfl,rfl⟩)
  go_ret
  exact⟨by rw[e1.out.1];rfl,by rw[e1.out.2];exact Turn.stay H.out (Below.refl _ _)⟩
 ·have P:=Lib.hid (Jc b L k w H.out hk2)
  rw[hy]at P
  by_cases hm:k∈L
  ·have e1:Hid (AQ L k=5∧AU L k=L):=Lib.hid (by simp[AQ,AU,hn,hm])
   rw[if_pos hm]at hand
   have hb:bits BinOp.and IntKind.u64 (x:Int) (y:Int)=(y:Int):=by rw[bits_and_u64_nat x y hx1 hy1,hand]
   have hne:((y:Int)==0)=false:=by simp;omega
   have cx:w.cell? ⟨b,k/64,none⟩=some (.int .u64 (x:Int)):=by rw[H.out.cell _ (by omega),hx]
   have CX:=Lib.hid cx
   clear hand hx hy cx hn hk
   go_enter Tryz.func177,Tryz.ntmps177
   go_wp2_with(go_at_call 218;refine P.out.mono ?_;rintro e w' ⟨rfl,m,rfl⟩;have cx:(w.drewN m).cell? ⟨b,k/64,none⟩=some (.int .u64 (x:Int)):=CX.out)
   go_ret
   exact⟨by rw[e1.out.1];rfl,by rw[e1.out.2];exact Turn.stay H.out (below_drewN (Below.refl _ _) _)⟩
  ·have e1:Hid (AQ L k=0∧AU L k=ins L k):=Lib.hid (by simp[AQ,AU,hn,hm])
   rw[if_neg hm]at hand
   have hb:bits BinOp.and IntKind.u64 (x:Int) (y:Int)=0:=by rw[bits_and_u64_nat x y hx1 hy1,hand];rfl
   have ho:bits BinOp.or IntKind.u64 (x:Int) (y:Int)=((x ||| y:Nat):Int):=bits_or_u64_nat x y hx1 hy1
   have cx:w.cell? ⟨b,k/64,none⟩=some (.int .u64 (x:Int)):=by rw[H.out.cell _ (by omega),hx]
   have hw:Hid (word (ins L k) (k/64)=x ||| y):=Lib.hid (by rw[I6,if_pos rfl,hx,hy])
   have HM:=Lib.hid hm
   have CX:=Lib.hid cx
   generalize hz:x ||| y=z at ho hw
   clear hand hx hy cx hn hk hm hz
   go_enter Tryz.func177,Tryz.ntmps177
   go_wp2_with(go_at_call 218;refine P.out.mono ?_;rintro e w' ⟨rfl,m,rfl⟩;have cx:(w.drewN m).cell? ⟨b,k/64,none⟩=some (.int .u64 (x:Int)):=CX.out;have fx:(w.drewN m).frozen? ⟨b,k/64,none⟩=false:=H.out.free _)
   go_ret
   refine⟨by rw[e1.out.1];rfl,?_⟩
   rw[e1.out.2]
   refine⟨⟨H.out.good.ins hk2 HM.out,?_⟩,fF (b:=w.drewN m) (grownBy_setCell _ _ _ _) rfl rfl rfl rfl⟩
   have:=heap_setCell_same (w.drewN m) b (k/64) (xG L true) 231 (.int .u64 (z:Int)) H.out.box
   rw[this,Jb L (ins L k) true (k/64) z (by omega) hw.out (fun i hi=>by rw[I6,if_neg (fun e=>hi e.symm)])]
set_option maxHeartbeats 800000 in
theorem Ub(b:Nat)(L:List Nat)(n:Int)(w:World)(h:dP w b L):Calls Tryz.prog 236 #[.pointer (some ⟨b,0,none⟩), .int .i64 n] w fun e w'=>e= .returned (.int .i64 (vW L n))∧Turn w w' b (vX L n):=by
 have H:=Lib.hid h
 clear h
 rcases En L n with⟨hn,hbad⟩|⟨k,rfl,hn,hk,hk2,x,y,hx,hy,hx1,hy1,hy0,hand⟩
 ·have e1:Hid (vW L n=2∧vX L n=L):=Lib.hid (by simp[vW,vX,hn])
  have HB:=Lib.hid hbad
  clear hbad
  go_enter Tryz.func236,Tryz.ntmps236
  go_wp2_with(go_at_call 218;refine(Em b L n _ H.out HB.out).mono ?_;rintro e w' ⟨rfl,rfl⟩)
  go_ret
  exact⟨by rw[e1.out.1];rfl,by rw[e1.out.2];exact Turn.stay H.out (Below.refl _ _)⟩
 ·have P:=Lib.hid (Jc b L k w H.out hk2)
  rw[hy]at P
  by_cases hm:k∈L
  ·have e1:Hid (vW L k=0∧vX L k=del L k):=Lib.hid (by simp[vW,vX,hn,hm])
   rw[if_pos hm]at hand
   have hb:bits BinOp.and IntKind.u64 (x:Int) (y:Int)=(y:Int):=by rw[bits_and_u64_nat x y hx1 hy1,hand]
   have hne:((y:Int)==0)=false:=by simp;omega
   have ho:bits BinOp.andNot IntKind.u64 (x:Int) (y:Int)=((x &&& (18446744073709551615-y):Nat):Int):=u64_andNot_nat x y hx1 hy1
   have cx:w.cell? ⟨b,k/64,none⟩=some (.int .u64 (x:Int)):=by rw[H.out.cell _ (by omega),hx]
   have hw:Hid (word (del L k) (k/64)=x &&& (18446744073709551615-y)):=Lib.hid (by rw[AO,if_pos rfl,hx,hy])
   have CX:=Lib.hid cx
   generalize hz:x &&& (18446744073709551615-y)=z at ho hw
   clear hand hx hy cx hn hk hm hz
   go_enter Tryz.func236,Tryz.ntmps236
   go_wp2_with(go_at_call 218;refine P.out.mono ?_;rintro e w' ⟨rfl,m,rfl⟩;have cx:(w.drewN m).cell? ⟨b,k/64,none⟩=some (.int .u64 (x:Int)):=CX.out;have fx:(w.drewN m).frozen? ⟨b,k/64,none⟩=false:=H.out.free _)
   go_ret
   refine⟨by rw[e1.out.1];rfl,?_⟩
   rw[e1.out.2]
   refine⟨⟨H.out.good.del k,?_⟩,fF (b:=w.drewN m) (grownBy_setCell _ _ _ _) rfl rfl rfl rfl⟩
   have:=heap_setCell_same (w.drewN m) b (k/64) (xG L true) 231 (.int .u64 (z:Int)) H.out.box
   rw[this,Jb L (del L k) true (k/64) z (by omega) hw.out (fun i hi=>by rw[AO,if_neg (fun e=>hi e.symm)])]
  ·have e1:Hid (vW L k=4∧vX L k=L):=Lib.hid (by simp[vW,vX,hn,hm])
   rw[if_neg hm]at hand
   have hb:bits BinOp.and IntKind.u64 (x:Int) (y:Int)=0:=by rw[bits_and_u64_nat x y hx1 hy1,hand];rfl
   have cx:w.cell? ⟨b,k/64,none⟩=some (.int .u64 (x:Int)):=by rw[H.out.cell _ (by omega),hx]
   have CX:=Lib.hid cx
   clear hand hx hy cx hn hk hm
   go_enter Tryz.func236,Tryz.ntmps236
   go_wp2_with(go_at_call 218;refine P.out.mono ?_;rintro e w' ⟨rfl,m,rfl⟩;have cx:(w.drewN m).cell? ⟨b,k/64,none⟩=some (.int .u64 (x:Int)):=CX.out)
   go_ret
   exact⟨by rw[e1.out.1];rfl,by rw[e1.out.2];exact Turn.stay H.out (below_drewN (Below.refl _ _) _)⟩
end
end Go.Proofs.YtammlljefhakmaaGreatDoor
