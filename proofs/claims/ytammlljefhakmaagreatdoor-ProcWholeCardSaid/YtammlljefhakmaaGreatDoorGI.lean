/- Helps of the proof. No condition. -/
import Derived.Test.YtammlljefhakmaaGreatDoorGC
import Derived.Test.YtammlljefhakmaaGreatDoorGI1
import Derived.Laws.Bits64b
import Derived.OwnWalk
import Derived.Laws.BitsAllLaws
namespace Go.Proofs.YtammlljefhakmaaGreatDoor
open Go.RowKit
set_option maxRecDepth 100000
section
def dK(L:List Nat):List Value:=(List.range 16).map fun i=> .int .u64 (word L i:Int)
theorem bM(L:List Nat):(dK L).length=16:=by simp[dK]
theorem ni(L:List Nat)(i:Nat)(h:i<16):(dK L)[i]? =some (.int .u64 (word L i:Int)):=by
 simp[dK,h]
theorem EO(L K:List Nat)(k:Nat)(x:Nat)(hk:word K k=x)(ho:∀i,i≠k→word K i=word L i):(dK L).set k (.int .u64 (x:Int))=dK K:=by
 apply List.ext_getElem?
 intro i
 rw[List.getElem?_set]
 by_cases h:i<16
 ·rw[ni K i h,bM]
  by_cases hik:k=i
  ·subst hik;rw[if_pos rfl,if_pos h,hk]
  ·rw[if_neg hik,ni L i h,ho i (fun e=>hik e.symm)]
 ·have h1:(dK L)[i]? =none:=List.getElem?_eq_none (by rw[bM];omega)
  have h2:(dK K)[i]? =none:=List.getElem?_eq_none (by rw[bM];omega)
  rw[h1,h2,bM]
  split
  ·rw[if_neg (by omega)]
  ·rfl
def yj(L:List Nat)(m:Bool):Array Value:=(dK L++[Value.bool m]).toArray
theorem Vk(L:List Nat)(m:Bool)(i:Nat)(h:i<16):(yj L m)[i]? =some (.int .u64 (word L i:Int)):=by
 rw[yj,List.getElem?_toArray,List.getElem?_append_left (by rw[bM];exact h),ni L i h]
theorem QW(L:List Nat)(m:Bool):(yj L m)[16]? =some (.bool m):=by
 rw[yj,List.getElem?_toArray,List.getElem?_append_right (by rw[bM];exact Nat.le_refl _),bM];rfl
theorem JY(L K:List Nat)(m:Bool)(k x:Nat)(hk:k<16)(h:word K k=x)(ho:∀i,i≠k→word K i=word L i):(yj L m).setIfInBounds k (.int .u64 (x:Int))=yj K m:=by
 apply Array.ext'
 rw[Array.toList_setIfInBounds]
 simp only[yj]
 rw[List.set_append_left _ _ (by rw[bM];exact hk),EO L K k x h ho]
structure dR(w:World)(b:Nat)(L:List Nat):Prop where
 good:Good L
 box:w.heap[b]? =some (.cells (yj L true) 231 (0,0))
theorem dR.below{w w':World}{b:Nat}{L:List Nat}(h:dR w b L)(hb:Below w.heap.size w w'):dR w' b L:=⟨h.good,below_block hb h.box⟩
theorem dR.lt{w:World}{b:Nat}{L:List Nat}(h:dR w b L):b<w.heap.size:=lt_of_block h.box
theorem dR.kept{w w':World}{b:Nat}{L:List Nat}{r:Option Nat}(h:dR w b L)(hg:w.grownBy w' r)(hne:some b≠r):dR w' b L:=⟨h.good,(hg.block b h.lt hne).trans h.box⟩
theorem dR.cell{w:World}{b:Nat}{L:List Nat}(h:dR w b L)(i:Nat)(hi:i<16):w.cell? ⟨b,i,none⟩=some (.int .u64 (word L i:Int)):=by
 rw[cell_of_row w b _ _ _ _ h.box];exact Vk L true i hi
theorem dR.made{w:World}{b:Nat}{L:List Nat}(h:dR w b L):w.cell? ⟨b,16,none⟩=some (.bool true):=by
 rw[cell_of_row w b _ _ _ _ h.box];exact QW L true
theorem dR.free{w:World}{b:Nat}{L:List Nat}(h:dR w b L)(i:Nat):w.frozen? ⟨b,i,none⟩=false:=frozen_of_row w b i _ _ h.box
theorem Hz(n:Int)(w:World):Calls Tryz.prog 176 #[.int .i64 n] w fun e w'=>e= .returned (.bool (decide (0≤n)&&decide (n<1024)))∧w=w':=by
 by_cases h0:0≤n
 ·have d0:decide (0≤n)=true:=decide_eq_true h0
  by_cases h1:n<1024
  ·have d1:decide (n<1024)=true:=decide_eq_true h1
   go_enter Tryz.func176,Tryz.ntmps176
   go_wp2
   go_ret
   exact⟨by rw[d0,d1];rfl,rfl⟩
  ·have d1:decide (n<1024)=false:=decide_eq_false h1
   go_enter Tryz.func176,Tryz.ntmps176
   go_wp2
   go_ret
   exact⟨rfl,rfl⟩
 ·have d0:decide (0≤n)=false:=decide_eq_false h0
  go_enter Tryz.func176,Tryz.ntmps176
  go_wp2
  go_ret
  exact⟨rfl,rfl⟩
theorem sM(n:Int)(b:Bool)(h:(decide (0≤n)&&decide (n<1024))=b)(w:World):Calls Tryz.prog 176 #[.int .i64 n] w fun e w'=>e= .returned (.bool b)∧w=w':=by
 have:=Hz n w
 rwa [h]at this
theorem kG(b:Nat)(m:Bool)(w:World)(h:w.cell? ⟨b,16,none⟩=some (.bool m)):Calls Tryz.prog 233 #[.pointer (some ⟨b,0,none⟩)] w fun e w'=>e= .returned (.bool m)∧w=w':=by
 go_enter Tryz.func233,Tryz.ntmps233
 go_wp2
 go_ret
 exact⟨rfl,rfl⟩
theorem EP(b:Nat)(L:List Nat)(n:Int)(w:World)(h:dR w b L)(hn:¬(0≤n∧n<1024)):Calls Tryz.prog 218 #[.pointer (some ⟨b,0,none⟩), .int .i64 n] w fun e w'=>e= .returned (.tuple #[.pointer none, .int .u64 0, .int .i64 2])∧w=w':=by
 have H:=Lib.hid h
 have HN:Hid ((decide (0≤n)&&decide (n<1024))=false):=Lib.hid (by rw[←Bool.not_eq_true];simpa using hn)
 clear h hn
 go_enter Tryz.func218,Tryz.ntmps218
 go_wp2_with(first
  |(go_at_call 233;refine(kG b true _ H.out.made).mono ?_;rintro e w' ⟨rfl,rfl⟩)
  |(go_at_call 176;refine(sM n _ HN.out _).mono ?_;rintro e w' ⟨rfl,rfl⟩))
 go_ret3
 exact⟨rfl,rfl⟩
theorem JZ(b:Nat)(L:List Nat)(n:Nat)(w:World)(h:dR w b L)(hn:n<1024):Calls Tryz.prog 218 #[.pointer (some ⟨b,0,none⟩), .int .i64 n] w fun e w'=>e= .returned (.tuple #[.pointer (some ⟨b,n/64,none⟩), .int .u64 ((2^(n%64):Nat):Int), .int .i64 0])∧∃m,w'=w.drewN m:=by
 have H:=Lib.hid h
 have HN:Hid ((decide (0≤(n:Int))&&decide ((n:Int)<1024))=true):=Lib.hid (by rw[Bool.and_eq_true];exact⟨by simp,by simp;omega⟩)
 have hd:(n:Int).tdiv 64=((n/64:Nat):Int):=by rw[Int.tdiv_eq_ediv_of_nonneg (by omega)];omega
 have hm:(n:Int).tmod 64=((n%64:Nat):Int):=by rw[Int.tmod_eq_emod_of_nonneg (by omega)];omega
 have hk:n/64<16:=by omega
 have hj:n%64<64:=by omega
 have hp:IntKind.u64.wrap (2^(n%64))=((2^(n%64):Nat):Int):=by
  have:2^(n%64)<2^64:=Nat.pow_lt_pow_of_lt (by decide) hj
  have e:((2:Int)^(n%64))=((2^(n%64):Nat):Int):=by simp
  rw[e,IntKind.wrap_u64]
  generalize 2^(n%64)=x at*
  omega
 generalize n/64=k at*
 generalize n%64=j at*
 clear h
 go_enter Tryz.func218,Tryz.ntmps218
 go_wp2_with(first
  |(go_at_call 233;refine(kG b true _ H.out.made).mono ?_;rintro e w' ⟨rfl,rfl⟩)
  |(go_at_call 176;refine(sM n _ HN.out _).mono ?_;rintro e w' ⟨rfl,rfl⟩))
 go_quiet (fail)
 go_wp2
 go_ret3
 exact⟨rfl,_,rfl⟩
end
section
structure Turn(w w':World)(b:Nat)(L:List Nat):Prop where
 st:dR w' b L
 grown:w.grownBy w' (some b)
theorem Turn.stay{w w':World}{b:Nat}{L:List Nat}(h:dR w b L)(hb:Below w.heap.size w w'):Turn w w' b L:=⟨h.below hb,aW hb _⟩
theorem Turn.below{B:Nat}{a w w':World}{b:Nat}{L:List Nat}(h:Below B a w)(k:Turn w w' b L)(hw:B≤w.heap.size)(hb:B≤b):Below B a w':=h.trans (lu k.grown hw hb)
def wN(n:Int):Bool:=decide (0≤n)&&decide (n<1024)
theorem pV(n:Int):wN n=true↔0≤n∧n<1024:=by simp[wN]
def Br(L:List Nat)(n:Int):Int:=if wN n then(if n.toNat∈L then 5 else 0)else 2
def Bt(L:List Nat)(n:Int):List Nat:=if wN n then(if n.toNat∈L then L else ins L n.toNat)else L
def wO(L:List Nat)(n:Int):Int:=if wN n then(if n.toNat∈L then 0 else 4)else 2
def wP(L:List Nat)(n:Int):List Nat:=if wN n then(if n.toNat∈L then del L n.toNat else L)else L
theorem YX(n:Int)(h:wN n=true):∃k:Nat,n=k∧k<1024∧n.toNat=k:=by
 obtain⟨h0,h1⟩:=(pV n).1 h
 obtain⟨k,rfl⟩:=Int.eq_ofNat_of_zero_le h0
 exact⟨k,rfl,by omega,by simp⟩
theorem ES(L:List Nat)(n:Int):(wN n=false∧¬(0≤n∧n<1024))∨∃k:Nat,n=k∧wN n=true∧n.toNat=k∧k<1024∧∃x y:Nat,word L (k/64)=x∧2^(k%64)=y∧x<18446744073709551616∧y<18446744073709551616∧0<y∧x &&& y=if k∈L then y else 0:=by
 cases h:wN n with
 |false=>exact Or.inl ⟨rfl,fun hn=>by rw[(pV n).2 hn]at h;cases h⟩
 |true=>
  obtain⟨k,rfl,h1,h2⟩:=YX n h
  exact Or.inr ⟨k,rfl,rfl,h2,h1,_,_,rfl,rfl,word_lt L _,Nat.pow_lt_pow_of_lt (m:=64) (by decide) (Nat.mod_lt _ (by decide)),Nat.two_pow_pos _,Vf L k⟩
set_option maxHeartbeats 800000 in
theorem OG(b:Nat)(L:List Nat)(n:Int)(w:World)(h:dR w b L):Calls Tryz.prog 177 #[.pointer (some ⟨b,0,none⟩), .int .i64 n] w fun e w'=>e= .returned (.int .i64 (Br L n))∧Turn w w' b (Bt L n):=by
 have H:=Lib.hid h
 clear h
 rcases ES L n with⟨hn,hbad⟩|⟨k,rfl,hn,hk,hk2,x,y,hx,hy,hx1,hy1,hy0,hand⟩
 ·have e1:Hid (Br L n=2∧Bt L n=L):=Lib.hid (by simp[Br,Bt,hn])
  have HB:=Lib.hid hbad
  clear hbad
  go_enter Tryz.func177,Tryz.ntmps177
  go_wp2_with(go_at_call 218;refine(EP b L n _ H.out HB.out).mono ?_;rintro e w' ⟨rfl,rfl⟩)
  go_ret
  exact⟨by rw[e1.out.1];rfl,by rw[e1.out.2];exact Turn.stay H.out (Below.refl _ _)⟩
 ·have P:=Lib.hid (JZ b L k w H.out hk2)
  rw[hy]at P
  by_cases hm:k∈L
  ·have e1:Hid (Br L k=5∧Bt L k=L):=Lib.hid (by simp[Br,Bt,hn,hm])
   rw[if_pos hm]at hand
   have hb:bits BinOp.and IntKind.u64 (x:Int) (y:Int)=(y:Int):=by rw[bits_and_u64_nat x y hx1 hy1,hand]
   have hne:((y:Int)==0)=false:=by simp;omega
   have cx:w.cell? ⟨b,k/64,none⟩=some (.int .u64 (x:Int)):=by rw[H.out.cell _ (by omega),hx]
   have CX:=Lib.hid cx
   clear hand hx hy cx hn hk
   go_enter Tryz.func177,Tryz.ntmps177
   go_wp2_with(go_at_call 218;refine P.out.mono ?_;rintro e w' ⟨rfl,m,rfl⟩;have cx:(w.drewN m).cell? ⟨b,k/64,none⟩=some (.int .u64 (x:Int)):=CX.out)
   go_ret
   exact⟨by rw[e1.out.1];rfl,by rw[e1.out.2];exact Turn.stay H.out (below_drewN (Below.refl _ _) _)⟩
  ·have e1:Hid (Br L k=0∧Bt L k=ins L k):=Lib.hid (by simp[Br,Bt,hn,hm])
   rw[if_neg hm]at hand
   have hb:bits BinOp.and IntKind.u64 (x:Int) (y:Int)=0:=by rw[bits_and_u64_nat x y hx1 hy1,hand];rfl
   have ho:bits BinOp.or IntKind.u64 (x:Int) (y:Int)=((x ||| y:Nat):Int):=bits_or_u64_nat x y hx1 hy1
   have cx:w.cell? ⟨b,k/64,none⟩=some (.int .u64 (x:Int)):=by rw[H.out.cell _ (by omega),hx]
   have hw:Hid (word (ins L k) (k/64)=x ||| y):=Lib.hid (by rw[JU,if_pos rfl,hx,hy])
   have HM:=Lib.hid hm
   have CX:=Lib.hid cx
   generalize hz:x ||| y=z at ho hw
   clear hand hx hy cx hn hk hm hz
   go_enter Tryz.func177,Tryz.ntmps177
   go_wp2_with(go_at_call 218;refine P.out.mono ?_;rintro e w' ⟨rfl,m,rfl⟩;have cx:(w.drewN m).cell? ⟨b,k/64,none⟩=some (.int .u64 (x:Int)):=CX.out;have fx:(w.drewN m).frozen? ⟨b,k/64,none⟩=false:=H.out.free _)
   go_ret
   refine⟨by rw[e1.out.1];rfl,?_⟩
   rw[e1.out.2]
   refine⟨⟨H.out.good.ins hk2 HM.out,?_⟩,fH (b:=w.drewN m) (grownBy_setCell _ _ _ _) rfl rfl rfl rfl⟩
   have:=heap_setCell_same (w.drewN m) b (k/64) (yj L true) 231 (.int .u64 (z:Int)) H.out.box
   rw[this,JY L (ins L k) true (k/64) z (by omega) hw.out (fun i hi=>by rw[JU,if_neg (fun e=>hi e.symm)])]
set_option maxHeartbeats 800000 in
theorem Vl(b:Nat)(L:List Nat)(n:Int)(w:World)(h:dR w b L):Calls Tryz.prog 236 #[.pointer (some ⟨b,0,none⟩), .int .i64 n] w fun e w'=>e= .returned (.int .i64 (wO L n))∧Turn w w' b (wP L n):=by
 have H:=Lib.hid h
 clear h
 rcases ES L n with⟨hn,hbad⟩|⟨k,rfl,hn,hk,hk2,x,y,hx,hy,hx1,hy1,hy0,hand⟩
 ·have e1:Hid (wO L n=2∧wP L n=L):=Lib.hid (by simp[wO,wP,hn])
  have HB:=Lib.hid hbad
  clear hbad
  go_enter Tryz.func236,Tryz.ntmps236
  go_wp2_with(go_at_call 218;refine(EP b L n _ H.out HB.out).mono ?_;rintro e w' ⟨rfl,rfl⟩)
  go_ret
  exact⟨by rw[e1.out.1];rfl,by rw[e1.out.2];exact Turn.stay H.out (Below.refl _ _)⟩
 ·have P:=Lib.hid (JZ b L k w H.out hk2)
  rw[hy]at P
  by_cases hm:k∈L
  ·have e1:Hid (wO L k=0∧wP L k=del L k):=Lib.hid (by simp[wO,wP,hn,hm])
   rw[if_pos hm]at hand
   have hb:bits BinOp.and IntKind.u64 (x:Int) (y:Int)=(y:Int):=by rw[bits_and_u64_nat x y hx1 hy1,hand]
   have hne:((y:Int)==0)=false:=by simp;omega
   have ho:bits BinOp.andNot IntKind.u64 (x:Int) (y:Int)=((x &&& (18446744073709551615-y):Nat):Int):=u64_andNot_nat x y hx1 hy1
   have cx:w.cell? ⟨b,k/64,none⟩=some (.int .u64 (x:Int)):=by rw[H.out.cell _ (by omega),hx]
   have hw:Hid (word (del L k) (k/64)=x &&& (18446744073709551615-y)):=Lib.hid (by rw[Bq,if_pos rfl,hx,hy])
   have CX:=Lib.hid cx
   generalize hz:x &&& (18446744073709551615-y)=z at ho hw
   clear hand hx hy cx hn hk hm hz
   go_enter Tryz.func236,Tryz.ntmps236
   go_wp2_with(go_at_call 218;refine P.out.mono ?_;rintro e w' ⟨rfl,m,rfl⟩;have cx:(w.drewN m).cell? ⟨b,k/64,none⟩=some (.int .u64 (x:Int)):=CX.out;have fx:(w.drewN m).frozen? ⟨b,k/64,none⟩=false:=H.out.free _)
   go_ret
   refine⟨by rw[e1.out.1];rfl,?_⟩
   rw[e1.out.2]
   refine⟨⟨H.out.good.del k,?_⟩,fH (b:=w.drewN m) (grownBy_setCell _ _ _ _) rfl rfl rfl rfl⟩
   have:=heap_setCell_same (w.drewN m) b (k/64) (yj L true) 231 (.int .u64 (z:Int)) H.out.box
   rw[this,JY L (del L k) true (k/64) z (by omega) hw.out (fun i hi=>by rw[Bq,if_neg (fun e=>hi e.symm)])]
  ·have e1:Hid (wO L k=4∧wP L k=L):=Lib.hid (by simp[wO,wP,hn,hm])
   rw[if_neg hm]at hand
   have hb:bits BinOp.and IntKind.u64 (x:Int) (y:Int)=0:=by rw[bits_and_u64_nat x y hx1 hy1,hand];rfl
   have cx:w.cell? ⟨b,k/64,none⟩=some (.int .u64 (x:Int)):=by rw[H.out.cell _ (by omega),hx]
   have CX:=Lib.hid cx
   clear hand hx hy cx hn hk hm
   go_enter Tryz.func236,Tryz.ntmps236
   go_wp2_with(go_at_call 218;refine P.out.mono ?_;rintro e w' ⟨rfl,m,rfl⟩;have cx:(w.drewN m).cell? ⟨b,k/64,none⟩=some (.int .u64 (x:Int)):=CX.out)
   go_ret
   exact⟨by rw[e1.out.1];rfl,by rw[e1.out.2];exact Turn.stay H.out (below_drewN (Below.refl _ _) _)⟩
end
end Go.Proofs.YtammlljefhakmaaGreatDoor
