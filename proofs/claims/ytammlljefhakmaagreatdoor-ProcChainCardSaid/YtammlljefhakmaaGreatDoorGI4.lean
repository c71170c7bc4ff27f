/- Helps of the proof. No condition. -/
import Derived.Test.YtammlljefhakmaaGreatDoorGI
import Derived.Deep.MidRow
import Derived.Laws.Bits128
namespace Go.Proofs.YtammlljefhakmaaGreatDoor
open Go.RowKit
set_option maxRecDepth 100000
theorem acP(a:Int):((a+9223372036854775808)%18446744073709551616-9223372036854775808)%128=a%128:=by omega
theorem acQ(r:Nat):bits BinOp.and IntKind.i64 (IntKind.i64.wrap (r:Int)) 127=((r%128:Nat):Int):=by
 rw[i64_and127,IntKind.wrap_i64,acP]
 rfl
set_option maxHeartbeats 1600000 in
theorem ZL(x:Nat)(hx:x<18446744073709551616)(w:World):Calls Tryz.prog 144 #[.int .u64 x] w fun e w'=>e= .returned (.int .i64 (eD x 64:Int))∧w=w':=by
 obtain⟨y,z,u,hy,hz,hu,by1,bz2,bz,bu,b1,b2,b3,hr⟩:=RX x hx
 have x1:bits BinOp.and IntKind.u64 ((x:Int)/2) 6148914691236517205=((x/2 &&& 6148914691236517205:Nat):Int):=by
  have:=bits_and_u64_nat (x/2) 6148914691236517205 (by omega) (by decide)
  rwa [show((x/2:Nat):Int)=(x:Int)/2 by omega]at this
 have x2:bits BinOp.and IntKind.u64 (x:Int) 6148914691236517205=((x &&& 6148914691236517205:Nat):Int):=bits_and_u64_nat x 6148914691236517205 hx (by decide)
 have y1:bits BinOp.and IntKind.u64 ((y:Int)/4) 3689348814741910323=((y/4 &&& 3689348814741910323:Nat):Int):=by
  have:=bits_and_u64_nat (y/4) 3689348814741910323 (by omega) (by decide)
  rwa [show((y/4:Nat):Int)=(y:Int)/4 by omega]at this
 have y2:bits BinOp.and IntKind.u64 (y:Int) 3689348814741910323=((y &&& 3689348814741910323:Nat):Int):=bits_and_u64_nat y 3689348814741910323 by1 (by decide)
 generalize x/2 &&& 6148914691236517205=p1 at*
 generalize x &&& 6148914691236517205=p2 at*
 generalize y/4 &&& 3689348814741910323=p3 at*
 generalize y &&& 3689348814741910323=p4 at*
 have s1:IntKind.u64.wrap ((p1:Int)+p2)=y:=by rw[IntKind.wrap_u64];omega
 have s2:IntKind.u64.wrap ((p3:Int)+p4)=z:=by rw[IntKind.wrap_u64];omega
 obtain⟨t,ht⟩:∃t,z/16+z=t:=⟨_,rfl⟩
 have s3:IntKind.u64.wrap ((z:Int)/16+z)=t:=by rw[IntKind.wrap_u64];omega
 have z1:bits BinOp.and IntKind.u64 (t:Int) 1085102592571150095=(u:Int):=by rw[←hu,ht];exact bits_and_u64_nat t 1085102592571150095 (by omega) (by decide)
 obtain⟨v,hv⟩:∃v,u+u/256=v:=⟨_,rfl⟩
 have s4:IntKind.u64.wrap ((u:Int)+(u:Int)/256)=v:=by rw[IntKind.wrap_u64];omega
 rw[hv]at b1 b2 b3 hr
 obtain⟨q,hq⟩:∃q,v+v/65536=q:=⟨_,rfl⟩
 have s5:IntKind.u64.wrap ((v:Int)+(v:Int)/65536)=q:=by rw[IntKind.wrap_u64];omega
 rw[hq]at b2 b3 hr
 obtain⟨r,hrr⟩:∃r,q+q/4294967296=r:=⟨_,rfl⟩
 have s6:IntKind.u64.wrap ((q:Int)+(q:Int)/4294967296)=r:=by rw[IntKind.wrap_u64];omega
 rw[hrr]at b3 hr
 obtain⟨c,hc⟩:∃c,IntKind.i64.wrap (r:Int)=c:=⟨_,rfl⟩
 have z2:bits BinOp.and IntKind.i64 c 127=(eD x 64:Int):=by
  rw[←hr,←hc]
  exact acQ r
 generalize eD x 64=pp at*
 clear hy hz hu by1 bz2 bz bu b1 b2 hr ht hv hq hrr b3 hx
 go_enter Tryz.func144,Tryz.ntmps144
 go_wp2
 go_ret
 exact⟨rfl,rfl⟩
theorem Kj:∃d,Tryz.prog.underlying 229=some d∧d.isRow=true:=⟨_,Tryz.underlying229,rfl⟩
theorem Ip:(Tryz.prog.info? 229).map (·.size)=some 16:=by kernel_rfl
theorem NH(L:List Nat)(k:Nat)(hk:k<16)(w:World):(Instr.index 229 (.agg (dL L).toArray) (.int .i64 (k:Int))).run Tryz.prog w= .ok (.int .u64 (word L k:Int)) w:=by
 have h2:(dL L)[k]? =some (.int .u64 (word L k:Int)):=nk L k hk
 have hu:=run_underlying (P:=Tryz.prog) Tryz.underlying229
 simp[Instr.index,hu,asIntOf,hk,h2,go_sem]
theorem dW.range{w:World}{b:Nat}{L:List Nat}(h:dW w b L):w.rangeAt b 0 (dL L):=fun j v hv=>by
 have hj:j<16:=by have:=(List.getElem?_eq_some_iff.1 hv).1;rwa [bK]at this
 rw[Nat.zero_add,h.cell j hj,←hv,nk L j hj]
def acR(L:List Nat)(w:World)(m i:Value)(wr:World):Prop:=∃k:Nat,i= .int .i64 (k:Int)∧k≤16∧m= .int .i64 (l8 L k:Int)∧w=wr
set_option maxHeartbeats 800000 in
theorem ZM(b:Nat)(L:List Nat)(w:World)(h:w.rangeAt b 0 (dL L)):Calls Tryz.prog 84 #[.pointer (some ⟨b,0,none⟩)] w fun e w'=>e= .returned (.int .i64 (l8 L 16:Int))∧w=w':=by
 have H:=Lib.hid h
 obtain⟨d,hu,hd⟩:=Kj
 have HU:=Lib.hid hu
 have HS:=Lib.hid Ip
 clear h hu
 go_enter Tryz.func84,Tryz.ntmps84
 go_wp2_with(refine wpList_load_mid rfl 229 (.tmp 10) rfl b 0 rfl (dL L) d H.out HU.out hd (by rw[bK];exact HS.out) ?_)
 go_loopw [3,12] (fun m i wr=>acR L w m i wr) (fun _ i _=>(16-(intOf i).toNat))
 case atStart=>exact⟨0,rfl,Nat.zero_le _,rfl,rfl⟩
 case round=>
  obtain⟨k,rfl,hk,rfl,rfl⟩:=hrel
  by_cases hlt:k<16
  ·have hix:=NH L k hlt
   have hle:=VW L (k+1)
   have hw:=word_lt L k
   rw[l8]at hle
   have HL:Hid (l8 L (k+1)=l8 L k+eD (word L k) 64):=Lib.hid rfl
   generalize l8 L k=m at hle HL ⊢
   generalize word L k=x at hix hle hw HL ⊢
   have P:=Lib.hid (ZL x hw)
   generalize eD x 64=p at hle HL P ⊢
   go_wp2_with(go_at_call 144;refine(P.out _).mono ?_;rintro e w' ⟨rfl,rfl⟩)
   go_roundw
   case rel=>exact⟨k+1,by go_num,by omega,by rw[HL.out];go_num,rfl⟩
   case measure=>simp[intOf];omega
  ·obtain rfl:k=16:=by omega
   go_wp2
   go_ret
   exact⟨rfl,rfl⟩
theorem ZN(b:Nat)(L:List Nat)(w:World)(h:dW w b L):Calls Tryz.prog 84 #[.pointer (some ⟨b,0,none⟩)] w fun e w'=>e= .returned (.int .i64 (L.length:Int))∧w=w':=by
 have:=ZM b L w h.range
 rwa [RU L h.good]at this
end Go.Proofs.YtammlljefhakmaaGreatDoor
