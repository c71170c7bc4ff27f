/- Helps of the proof. No condition. -/
import Derived.Test.YtammlljefhakmaaGreatDoorGC
import Derived.Test.YtammlljefhakmaaGreatDoorGI1
import Derived.Laws.Bits64b
import Derived.OwnWalk
import Derived.Laws.BitsAllLaws
namespace Go.Proofs.YtammlljefhakmaaGreatDoor
open Go.RowKit
set_option maxRecDepth 100000
section
def dL(L:List Nat):List Value:=(List.range 16).map fun i=> .int .u64 (word L i:Int)
theorem bK(L:List Nat):(dL L).length=16:=by simp[dL]
theorem nk(L:List Nat)(i:Nat)(h:i<16):(dL L)[i]? =some (.int .u64 (word L i:Int)):=by
 simp[dL,h]
theorem Fh(L K:List Nat)(k:Nat)(x:Nat)(hk:word K k=x)(ho:∀i,i≠k→word K i=word L i):(dL L).set k (.int .u64 (x:Int))=dL K:=by
 apply List.ext_getElem?
 intro i
 rw[List.getElem?_set]
 by_cases h:i<16
 ·rw[nk K i h,bK]
  by_cases hik:k=i
  ·subst hik;rw[if_pos rfl,if_pos h,hk]
  ·rw[if_neg hik,nk L i h,ho i (fun e=>hik e.symm)]
 ·have h1:(dL L)[i]? =none:=List.getElem?_eq_none (by rw[bK];omega)
  have h2:(dL K)[i]? =none:=List.getElem?_eq_none (by rw[bK];omega)
  rw[h1,h2,bK]
  split
  ·rw[if_neg (by omega)]
  ·rfl
def xW(L:List Nat)(m:Bool):Array Value:=(dL L++[Value.bool m]).toArray
theorem VY(L:List Nat)(m:Bool)(i:Nat)(h:i<16):(xW L m)[i]? =some (.int .u64 (word L i:Int)):=by
 rw[xW,List.getElem?_toArray,List.getElem?_append_left (by rw[bK];exact h),nk L i h]
theorem RY(L:List Nat)(m:Bool):(xW L m)[16]? =some (.bool m):=by
 rw[xW,List.getElem?_toArray,List.getElem?_append_right (by rw[bK];exact Nat.le_refl _),bK];rfl
theorem Kh(L K:List Nat)(m:Bool)(k x:Nat)(hk:k<16)(h:word K k=x)(ho:∀i,i≠k→word K i=word L i):(xW L m).setIfInBounds k (.int .u64 (x:Int))=xW K m:=by
 apply Array.ext'
 rw[Array.toList_setIfInBounds]
 simp only[xW]
 rw[List.set_append_left _ _ (by rw[bK];exact hk),Fh L K k x h ho]
structure dW(w:World)(b:Nat)(L:List Nat):Prop where
 good:Good L
 box:w.heap[b]? =some (.cells (xW L true) 231 (0,0))
theorem dW.below{w w':World}{b:Nat}{L:List Nat}(h:dW w b L)(hb:Below w.heap.size w w'):dW w' b L:=⟨h.good,below_block hb h.box⟩
theorem dW.lt{w:World}{b:Nat}{L:List Nat}(h:dW w b L):b<w.heap.size:=lt_of_block h.box
theorem dW.kept{w w':World}{b:Nat}{L:List Nat}{r:Option Nat}(h:dW w b L)(hg:w.grownBy w' r)(hne:some b≠r):dW w' b L:=⟨h.good,(hg.block b h.lt hne).trans h.box⟩
theorem dW.cell{w:World}{b:Nat}{L:List Nat}(h:dW w b L)(i:Nat)(hi:i<16):w.cell? ⟨b,i,none⟩=some (.int .u64 (word L i:Int)):=by
 rw[cell_of_row w b _ _ _ _ h.box];exact VY L true i hi
theorem dW.made{w:World}{b:Nat}{L:List Nat}(h:dW w b L):w.cell? ⟨b,16,none⟩=some (.bool true):=by
 rw[cell_of_row w b _ _ _ _ h.box];exact RY L true
theorem dW.free{w:World}{b:Nat}{L:List Nat}(h:dW w b L)(i:Nat):w.frozen? ⟨b,i,none⟩=false:=frozen_of_row w b i _ _ h.box
theorem Io(n:Int)(w:World):Calls Tryz.prog 176 #[.int .i64 n] w fun e w'=>e= .returned (.bool (decide (0≤n)&&decide (n<1024)))∧w=w':=by
 by_cases h0:0≤n
 ·have d0:decide (0≤n)=true:=decide_eq_true h0
  by_cases h1:n<1024
  ·have d1:decide (n<1024)=true:=decide_eq_true h1
   go_enter Tryz.func176,Tryz.ntmps176
   go_wp2
   go_ret
   exact⟨by rw[d0,d1];rfl,rfl⟩
  ·have d1:decide (n<1024)=false:=decide_eq_false h1
   go_enter Tryz.func176,Tryz.ntmps176
   go_wp2
   go_ret
   exact⟨rfl,rfl⟩
 ·have d0:decide (0≤n)=false:=decide_eq_false h0
  go_enter Tryz.func176,Tryz.ntmps176
  go_wp2
  go_ret
  exact⟨rfl,rfl⟩
theorem sP(n:Int)(b:Bool)(h:(decide (0≤n)&&decide (n<1024))=b)(w:World):Calls Tryz.prog 176 #[.int .i64 n] w fun e w'=>e= .returned (.bool b)∧w=w':=by
 have:=Io n w
 rwa [h]at this
theorem kJ(b:Nat)(m:Bool)(w:World)(h:w.cell? ⟨b,16,none⟩=some (.bool m)):Calls Tryz.prog 233 #[.pointer (some ⟨b,0,none⟩)] w fun e w'=>e= .returned (.bool m)∧w=w':=by
 go_enter Tryz.func233,Tryz.ntmps233
 go_wp2
 go_ret
 exact⟨rfl,rfl⟩
theorem Fj(b:Nat)(L:List Nat)(n:Int)(w:World)(h:dW w b L)(hn:¬(0≤n∧n<1024)):Calls Tryz.prog 218 #[.pointer (some ⟨b,0,none⟩), .int .i64 n] w fun e w'=>e= .returned (.tuple #[.pointer none, .int .u64 0, .int .i64 2])∧w=w':=by
 have H:=Lib.hid h
 have HN:Hid ((decide (0≤n)&&decide (n<1024))=false):=Lib.hid (by rw[←Bool.not_eq_true];simpa using hn)
 clear h hn
 go_enter Tryz.func218,Tryz.ntmps218
 go_wp2_with(first
  |(go_at_call 233;refine(kJ b true _ H.out.made).mono ?_;rintro e w' ⟨rfl,rfl⟩)
  |(go_at_call 176;refine(sP n _ HN.out _).mono ?_;rintro e w' ⟨rfl,rfl⟩))
 go_ret3
 exact⟨rfl,rfl⟩
theorem Ki(b:Nat)(L:List Nat)(n:Nat)(w:World)(h:dW w b L)(hn:n<1024):Calls Tryz.prog 218 #[.pointer (some ⟨b,0,none⟩), .int .i64 n] w fun e w'=>e= .returned (.tuple #[.pointer (some ⟨b,n/64,none⟩), .int .u64 ((2^(n%64):Nat):Int), .int .i64 0])∧∃m,w'=w.drewN m:=by
 have H:=Lib.hid h
 have HN:Hid ((decide (0≤(n:Int))&&decide ((n:Int)<1024))=true):=Lib.hid (by rw[Bool.and_eq_true];exact⟨by simp,by simp;omega⟩)
 have hd:(n:Int).tdiv 64=((n/64:Nat):Int):=by rw[Int.tdiv_eq_ediv_of_nonneg (by omega)];omega
 have hm:(n:Int).tmod 64=((n%64:Nat):Int):=by rw[Int.tmod_eq_emod_of_nonneg (by omega)];omega
 have hk:n/64<16:=by omega
 have hj:n%64<64:=by omega
 have hp:IntKind.u64.wrap (2^(n%64))=((2^(n%64):Nat):Int):=by
  have:2^(n%64)<2^64:=Nat.pow_lt_pow_of_lt (by decide) hj
  have e:((2:Int)^(n%64))=((2^(n%64):Nat):Int):=by simp
  rw[e,IntKind.wrap_u64]
  generalize 2^(n%64)=x at*
  omega
 generalize n/64=k at*
 generalize n%64=j at*
 clear h
 go_enter Tryz.func218,Tryz.ntmps218
 go_wp2_with(first
  |(go_at_call 233;refine(kJ b true _ H.out.made).mono ?_;rintro e w' ⟨rfl,rfl⟩)
  |(go_at_call 176;refine(sP n _ HN.out _).mono ?_;rintro e w' ⟨rfl,rfl⟩))
 go_quiet (fail)
 go_wp2
 go_ret3
 exact⟨rfl,_,rfl⟩
end
section
structure Turn(w w':World)(b:Nat)(L:List Nat):Prop where
 st:dW w' b L
 grown:w.grownBy w' (some b)
theorem Turn.stay{w w':World}{b:Nat}{L:List Nat}(h:dW w b L)(hb:Below w.heap.size w w'):Turn w w' b L:=⟨h.below hb,aP hb _⟩
theorem Turn.below{B:Nat}{a w w':World}{b:Nat}{L:List Nat}(h:Below B a w)(k:Turn w w' b L)(hw:B≤w.heap.size)(hb:B≤b):Below B a w':=h.trans (kZ k.grown hw hb)
def wK(n:Int):Bool:=decide (0≤n)&&decide (n<1024)
theorem pR(n:Int):wK n=true↔0≤n∧n<1024:=by simp[wK]
def BJ(L:List Nat)(n:Int):Int:=if wK n then(if n.toNat∈L then 5 else 0)else 2
def BK(L:List Nat)(n:Int):List Nat:=if wK n then(if n.toNat∈L then L else ins L n.toNat)else L
def wL(L:List Nat)(n:Int):Int:=if wK n then(if n.toNat∈L then 0 else 4)else 2
def wM(L:List Nat)(n:Int):List Nat:=if wK n then(if n.toNat∈L then del L n.toNat else L)else L
theorem ZK(n:Int)(h:wK n=true):∃k:Nat,n=k∧k<1024∧n.toNat=k:=by
 obtain⟨h0,h1⟩:=(pR n).1 h
 obtain⟨k,rfl⟩:=Int.eq_ofNat_of_zero_le h0
 exact⟨k,rfl,by omega,by simp⟩
theorem Fp(L:List Nat)(n:Int):(wK n=false∧¬(0≤n∧n<1024))∨∃k:Nat,n=k∧wK n=true∧n.toNat=k∧k<1024∧∃x y:Nat,word L (k/64)=x∧2^(k%64)=y∧x<18446744073709551616∧y<18446744073709551616∧0<y∧x &&& y=if k∈L then y else 0:=by
 cases h:wK n with
 |false=>exact Or.inl ⟨rfl,fun hn=>by rw[(pR n).2 hn]at h;cases h⟩
 |true=>
  obtain⟨k,rfl,h1,h2⟩:=ZK n h
  exact Or.inr ⟨k,rfl,rfl,h2,h1,_,_,rfl,rfl,word_lt L _,Nat.pow_lt_pow_of_lt (m:=64) (by decide) (Nat.mod_lt _ (by decide)),Nat.two_pow_pos _,VR L k⟩
set_option maxHeartbeats 800000 in
theorem Pm(b:Nat)(L:List Nat)(n:Int)(w:World)(h:dW w b L):Calls Tryz.prog 177 #[.pointer (some ⟨b,0,none⟩), .int .i64 n] w fun e w'=>e= .returned (.int .i64 (BJ L n))∧Turn w w' b (BK L n):=by
 have H:=Lib.hid h
 clear h
 rcases Fp L n with⟨hn,hbad⟩|⟨k,rfl,hn,hk,hk2,x,y,hx,hy,hx1,hy1,hy0,hand⟩
 ·have e1:Hid (BJ L n=2∧BK L n=L):=Lib.hid (by simp[BJ,BK,hn])
  have HB:=Lib.hid hbad
  clear hbad
  go_enter Tryz.func177,Tryz.ntmps177
  go_wp2_with(go_at_call 218;refine(Fj b L n _ H.out HB.out).mono ?_;rintro e w' ⟨rfl,rfl⟩)
  go_ret
  exact⟨by rw[e1.out.1];rfl,by rw[e1.out.2];exact Turn.stay H.out (Below.refl _ _)⟩
 ·have P:=Lib.hid (Ki b L k w H.out hk2)
  rw[hy]at P
  by_cases hm:k∈L
  ·have e1:Hid (BJ L k=5∧BK L k=L):=Lib.hid (by simp[BJ,BK,hn,hm])
   rw[if_pos hm]at hand
   have hb:bits BinOp.and IntKind.u64 (x:Int) (y:Int)=(y:Int):=by rw[bits_and_u64_nat x y hx1 hy1,hand]
   have hne:((y:Int)==0)=false:=by simp;omega
   have cx:w.cell? ⟨b,k/64,none⟩=some (.int .u64 (x:Int)):=by rw[H.out.cell _ (by omega),hx]
   have CX:=Lib.hid cx
   clear hand hx hy cx hn hk
   go_enter Tryz.func177,Tryz.ntmps177
   go_wp2_with(go_at_call 218;refine P.out.mono ?_;rintro e w' ⟨rfl,m,rfl⟩;have cx:(w.drewN m).cell? ⟨b,k/64,none⟩=some (.int .u64 (x:Int)):=CX.out)
   go_ret
   exact⟨by rw[e1.out.1];rfl,by rw[e1.out.2];exact Turn.stay H.out (below_drewN (Below.refl _ _) _)⟩
  ·have e1:Hid (BJ L k=0∧BK L k=ins L k):=Lib.hid (by simp[BJ,BK,hn,hm])
   rw[if_neg hm]at hand
   have hb:bits BinOp.and IntKind.u64 (x:Int) (y:Int)=0:=by rw[bits_and_u64_nat x y hx1 hy1,hand];rfl
   have ho:bits BinOp.or IntKind.u64 (x:Int) (y:Int)=((x ||| y:Nat):Int):=bits_or_u64_nat x y hx1 hy1
   have cx:w.cell? ⟨b,k/64,none⟩=some (.int .u64 (x:Int)):=by rw[H.out.cell _ (by omega),hx]
   have hw:Hid (word (ins L k) (k/64)=x ||| y):=Lib.hid (by rw[Ka,if_pos rfl,hx,hy])
   have HM:=Lib.hid hm
   have CX:=Lib.hid cx
   generalize hz:x ||| y=z at ho hw
   clear hand hx hy cx hn hk hm hz
   go_enter Tryz.func177,Tryz.ntmps177
   go_wp2_with(go_at_call 218;refine P.out.mono ?_;rintro e w' ⟨rfl,m,rfl⟩;have cx:(w.drewN m).cell? ⟨b,k/64,none⟩=some (.int .u64 (x:Int)):=CX.out;have fx:(w.drewN m).frozen? ⟨b,k/64,none⟩=false:=H.out.free _)
   go_ret
   refine⟨by rw[e1.out.1];rfl,?_⟩
   rw[e1.out.2]
   refine⟨⟨H.out.good.ins hk2 HM.out,?_⟩,fG (b:=w.drewN m) (grownBy_setCell _ _ _ _) rfl rfl rfl rfl⟩
   have:=heap_setCell_same (w.drewN m) b (k/64) (xW L true) 231 (.int .u64 (z:Int)) H.out.box
   rw[this,Kh L (ins L k) true (k/64) z (by omega) hw.out (fun i hi=>by rw[Ka,if_neg (fun e=>hi e.symm)])]
set_option maxHeartbeats 800000 in
theorem VZ(b:Nat)(L:List Nat)(n:Int)(w:World)(h:dW w b L):Calls Tryz.prog 236 #[.pointer (some ⟨b,0,none⟩), .int .i64 n] w fun e w'=>e= .returned (.int .i64 (wL L n))∧Turn w w' b (wM L n):=by
 have H:=Lib.hid h
 clear h
 rcases Fp L n with⟨hn,hbad⟩|⟨k,rfl,hn,hk,hk2,x,y,hx,hy,hx1,hy1,hy0,hand⟩
 ·have e1:Hid (wL L n=2∧wM L n=L):=Lib.hid (by simp[wL,wM,hn])
  have HB:=Lib.hid hbad
  clear hbad
  go_enter Tryz.func236,Tryz.ntmps236
  go_wp2_with(go_at_call 218;refine(Fj b L n _ H.out HB.out).mono ?_;rintro e w' ⟨rfl,rfl⟩)
  go_ret
  exact⟨by rw[e1.out.1];rfl,by rw[e1.out.2];exact Turn.stay H.out (Below.refl _ _)⟩
 ·have P:=Lib.hid (Ki b L k w H.out hk2)
  rw[hy]at P
  by_cases hm:k∈L
  ·have e1:Hid (wL L k=0∧wM L k=del L k):=Lib.hid (by simp[wL,wM,hn,hm])
   rw[if_pos hm]at hand
   have hb:bits BinOp.and IntKind.u64 (x:Int) (y:Int)=(y:Int):=by rw[bits_and_u64_nat x y hx1 hy1,hand]
   have hne:((y:Int)==0)=false:=by simp;omega
   have ho:bits BinOp.andNot IntKind.u64 (x:Int) (y:Int)=((x &&& (18446744073709551615-y):Nat):Int):=u64_andNot_nat x y hx1 hy1
   have cx:w.cell? ⟨b,k/64,none⟩=some (.int .u64 (x:Int)):=by rw[H.out.cell _ (by omega),hx]
   have hw:Hid (word (del L k) (k/64)=x &&& (18446744073709551615-y)):=Lib.hid (by rw[BI,if_pos rfl,hx,hy])
   have CX:=Lib.hid cx
   generalize hz:x &&& (18446744073709551615-y)=z at ho hw
   clear hand hx hy cx hn hk hm hz
   go_enter Tryz.func236,Tryz.ntmps236
   go_wp2_with(go_at_call 218;refine P.out.mono ?_;rintro e w' ⟨rfl,m,rfl⟩;have cx:(w.drewN m).cell? ⟨b,k/64,none⟩=some (.int .u64 (x:Int)):=CX.out;have fx:(w.drewN m).frozen? ⟨b,k/64,none⟩=false:=H.out.free _)
   go_ret
   refine⟨by rw[e1.out.1];rfl,?_⟩
   rw[e1.out.2]
   refine⟨⟨H.out.good.del k,?_⟩,fG (b:=w.drewN m) (grownBy_setCell _ _ _ _) rfl rfl rfl rfl⟩
   have:=heap_setCell_same (w.drewN m) b (k/64) (xW L true) 231 (.int .u64 (z:Int)) H.out.box
   rw[this,Kh L (del L k) true (k/64) z (by omega) hw.out (fun i hi=>by rw[BI,if_neg (fun e=>hi e.symm)])]
  ·have e1:Hid (wL L k=4∧wM L k=L):=Lib.hid (by simp[wL,wM,hn,hm])
   rw[if_neg hm]at hand
   have hb:bits BinOp.and IntKind.u64 (x:Int) (y:Int)=0:=by rw[bits_and_u64_nat x y hx1 hy1,hand];rfl
   have cx:w.cell? ⟨b,k/64,none⟩=some (.int .u64 (x:Int)):=by rw[H.out.cell _ (by omega),hx]
   have CX:=Lib.hid cx
   clear hand hx hy cx hn hk hm
   go_enter Tryz.func236,Tryz.ntmps236
   go_wp2_with(go_at_call 218;refine P.out.mono ?_;rintro e w' ⟨rfl,m,rfl⟩;have cx:(w.drewN m).cell? ⟨b,k/64,none⟩=some (.int .u64 (x:Int)):=CX.out)
   go_ret
   exact⟨by rw[e1.out.1];rfl,by rw[e1.out.2];exact Turn.stay H.out (below_drewN (Below.refl _ _) _)⟩
end
end Go.Proofs.YtammlljefhakmaaGreatDoor
