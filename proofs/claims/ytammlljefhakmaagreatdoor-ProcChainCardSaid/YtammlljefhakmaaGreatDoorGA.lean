/- Helps of the proof. No condition. -/
import Derived.Test.YtammlljefhakmaaGreatDoorRows
import Derived.WalkKit
import Derived.WalkSpells
import Derived.WalkLawsBesides
import Derived.Deep.QuietTactic
import Derived.BigQuiet
import Derived.Lib.Hide
import Derived.Laws.BitsAllLaws
namespace Go.Proofs.YtammlljefhakmaaGreatDoor
open Go.RowKit
set_option maxRecDepth 100000
section
structure aM(w:World):Prop where
 m0:w.cell? ⟨0,0,none⟩=some (.int .u32 1)
 m1:w.cell? ⟨0,1,none⟩=some (.int .u32 2)
 m2:w.cell? ⟨0,2,none⟩=some (.int .u32 4)
 m3:w.cell? ⟨0,3,none⟩=some (.int .u32 261888)
 m4:w.cell? ⟨0,4,none⟩=some (.int .u32 31)
 m5:w.cell? ⟨0,5,none⟩=some (.int .u32 992)
 m6:w.cell? ⟨0,6,none⟩=some (.int .u32 31744)
 m7:w.cell? ⟨0,7,none⟩=some (.int .u32 32736)
 t0:w.cell? ⟨1,0,none⟩=some (.int .u8 0)
 t1:w.cell? ⟨1,1,none⟩=some (.int .u8 1)
 t3:w.cell? ⟨1,3,none⟩=some (.int .u8 2)
 t15:w.cell? ⟨1,15,none⟩=some (.int .u8 8)
 t29:w.cell? ⟨1,29,none⟩=some (.int .u8 5)
 t30:w.cell? ⟨1,30,none⟩=some (.int .u8 10)
theorem oH{w:World}{a:Addr}{v:Value}(h:w.cell? a=some v):a.block<w.heap.size:=by
 by_cases hc:a.block<w.heap.size
 ·exact hc
 ·simp[World.cell?,Array.getElem?_eq_none (Nat.le_of_not_lt hc)]at h
theorem aM.of_cells{w w':World}(h:aM w)(hc:∀b o,b<w.heap.size→w'.cell? ⟨b,o,none⟩=w.cell? ⟨b,o,none⟩):aM w':=
 have k0:=oH h.m0
 have k1:=oH h.t0
 ⟨(hc _ _ k0).trans h.m0,(hc _ _ k0).trans h.m1,(hc _ _ k0).trans h.m2,(hc _ _ k0).trans h.m3,(hc _ _ k0).trans h.m4,(hc _ _ k0).trans h.m5,(hc _ _ k0).trans h.m6,(hc _ _ k0).trans h.m7,(hc _ _ k1).trans h.t0,(hc _ _ k1).trans h.t1,(hc _ _ k1).trans h.t3,(hc _ _ k1).trans h.t15,(hc _ _ k1).trans h.t29,(hc _ _ k1).trans h.t30⟩
theorem VO{W w1:World}(hb:Below W.heap.size W w1):(∀b o,b<W.heap.size→w1.cell? ⟨b,o,none⟩=W.cell? ⟨b,o,none⟩)∧(∀b o,b<W.heap.size→w1.frozen? ⟨b,o,none⟩=W.frozen? ⟨b,o,none⟩):=
 ⟨fun b o h=>hb.cell (p:=⟨b,o,none⟩) h,fun b o h=>hb.frozen (p:=⟨b,o,none⟩) h⟩
theorem aM.below{w w':World}(h:aM w)(hb:Below w.heap.size w w'):aM w':=h.of_cells (VO hb).1
set_option maxRecDepth 100000 in
set_option maxHeartbeats 400000 in
theorem abo(w:World)(h:aM w):Calls Tryz.prog 219 #[.int .i64 0] w fun e w'=>e= .returned (.int .i64 0)∧w'=w:=by
 have h1:=h.m0
 have h2:=h.t0
 have hb:bits BinOp.and IntKind.u32 1 4294967295=1:=by decide
 clear h
 go_enter Tryz.func219,Tryz.ntmps219
 go_wp2
 go_ret
 exact⟨rfl,rfl⟩
set_option maxRecDepth 100000 in
set_option maxHeartbeats 400000 in
theorem abp(w:World)(h:aM w):Calls Tryz.prog 219 #[.int .i64 1] w fun e w'=>e= .returned (.int .i64 1)∧w'=w:=by
 have h1:=h.m1
 have h2:=h.t1
 have hb:bits BinOp.and IntKind.u32 2 4294967294=2:=by decide
 clear h
 go_enter Tryz.func219,Tryz.ntmps219
 go_wp2
 go_ret
 exact⟨rfl,rfl⟩
set_option maxRecDepth 100000 in
set_option maxHeartbeats 400000 in
theorem abq(w:World)(h:aM w):Calls Tryz.prog 219 #[.int .i64 2] w fun e w'=>e= .returned (.int .i64 2)∧w'=w:=by
 have h1:=h.m2
 have h2:=h.t3
 have hb:bits BinOp.and IntKind.u32 4 4294967292=4:=by decide
 clear h
 go_enter Tryz.func219,Tryz.ntmps219
 go_wp2
 go_ret
 exact⟨rfl,rfl⟩
set_option maxRecDepth 100000 in
set_option maxHeartbeats 400000 in
theorem abr(w:World)(h:aM w):Calls Tryz.prog 219 #[.int .i64 3] w fun e w'=>e= .returned (.int .i64 8)∧w'=w:=by
 have h1:=h.m3
 have h2:=h.t15
 have hb:bits BinOp.and IntKind.u32 261888 4294705408=256:=by decide
 clear h
 go_enter Tryz.func219,Tryz.ntmps219
 go_wp2
 go_ret
 exact⟨rfl,rfl⟩
set_option maxRecDepth 100000 in
set_option maxHeartbeats 400000 in
theorem aeT(w:World)(h:aM w):Calls Tryz.prog 219 #[.int .i64 4] w fun e w'=>e= .returned (.int .i64 0)∧w'=w:=by
 have h1:=h.m4
 have h2:=h.t0
 have hb:bits BinOp.and IntKind.u32 31 4294967265=1:=by decide
 clear h
 go_enter Tryz.func219,Tryz.ntmps219
 go_wp2
 go_ret
 exact⟨rfl,rfl⟩
set_option maxRecDepth 100000 in
set_option maxHeartbeats 400000 in
theorem aeU(w:World)(h:aM w):Calls Tryz.prog 219 #[.int .i64 5] w fun e w'=>e= .returned (.int .i64 5)∧w'=w:=by
 have h1:=h.m5
 have h2:=h.t29
 have hb:bits BinOp.and IntKind.u32 992 4294966304=32:=by decide
 clear h
 go_enter Tryz.func219,Tryz.ntmps219
 go_wp2
 go_ret
 exact⟨rfl,rfl⟩
set_option maxRecDepth 100000 in
set_option maxHeartbeats 400000 in
theorem aeV(w:World)(h:aM w):Calls Tryz.prog 219 #[.int .i64 6] w fun e w'=>e= .returned (.int .i64 10)∧w'=w:=by
 have h1:=h.m6
 have h2:=h.t30
 have hb:bits BinOp.and IntKind.u32 31744 4294935552=1024:=by decide
 clear h
 go_enter Tryz.func219,Tryz.ntmps219
 go_wp2
 go_ret
 exact⟨rfl,rfl⟩
set_option maxRecDepth 100000 in
set_option maxHeartbeats 400000 in
theorem aeW(w:World)(h:aM w):Calls Tryz.prog 219 #[.int .i64 7] w fun e w'=>e= .returned (.int .i64 5)∧w'=w:=by
 have h1:=h.m7
 have h2:=h.t29
 have hb:bits BinOp.and IntKind.u32 32736 4294934560=32:=by decide
 clear h
 go_enter Tryz.func219,Tryz.ntmps219
 go_wp2
 go_ret
 exact⟨rfl,rfl⟩
end
section
theorem jT(a l n:Nat):a &&& ((2^n-1) <<< l)=(a/2^l%2^n)*2^l:=by
 rw[←Nat.shiftLeft_eq,←Nat.shiftRight_eq_div_pow]
 apply Nat.eq_of_testBit_eq
 intro i
 simp only[Nat.testBit_and,Nat.testBit_shiftLeft,Nat.testBit_two_pow_sub_one,Nat.testBit_mod_two_pow,Nat.testBit_shiftRight]
 by_cases h:l≤i
 ·have e:l+(i-l)=i:=by omega
  simp[h,e,Bool.and_comm]
 ·simp[h]
theorem acj(a:Int)(h0:0≤a)(h1:a<4294967296):bits BinOp.and IntKind.u32 a 1=(a/1%2)*1:=by
 obtain⟨A,rfl⟩:=Int.eq_ofNat_of_zero_le h0
 rw[u32_and (A:Int) 1 h0 h1 (by omega) (by omega)]
 have:=jT A 0 1
 simp only[show((2^1-1) <<< 0:Nat)=1 from by decide,show(2^0:Nat)=1 from by decide,show(2^1:Nat)=2 from by decide]at this
 simp only[Int.toNat_natCast,show((1:Int).toNat)=1 from rfl,this]
 omega
set_option maxRecDepth 100000 in
set_option maxHeartbeats 400000 in
theorem Nl(a:Int)(w:World)(h0:0≤a)(h1:a<4294967296)(h:aM w):Calls Tryz.prog 179 #[.int .u32 a, .int .i64 0] w fun e w'=>e= .returned (.int .i64 (a/1%2))∧∃n,w'=w.drewN n:=by
 have hm:=h.m0
 have hb:=acj a h0 h1
 have y0:0≤a/1%2:=by omega
 have y1:a/1%2<2:=by omega
 generalize a/1%2=y at*
 have H:=Lib.hid h
 clear h
 go_enter Tryz.func179,Tryz.ntmps179
 go_wp2
 go_quiet ((go_at_call 219;exact Calls.quiet_of_same (abo _ (H.out.of_cells (fun _ _ _=>rfl)))))
 go_wp2
 go_ret
 exact⟨rfl,_,rfl⟩
theorem acn(a:Int)(h0:0≤a)(h1:a<4294967296):bits BinOp.and IntKind.u32 a 2=(a/2%2)*2:=by
 obtain⟨A,rfl⟩:=Int.eq_ofNat_of_zero_le h0
 rw[u32_and (A:Int) 2 h0 h1 (by omega) (by omega)]
 have:=jT A 1 1
 simp only[show((2^1-1) <<< 1:Nat)=2 from by decide,show(2^1:Nat)=2 from by decide]at this
 simp only[Int.toNat_natCast,show((2:Int).toNat)=2 from rfl,this]
 omega
set_option maxRecDepth 100000 in
set_option maxHeartbeats 400000 in
theorem Nn(a:Int)(w:World)(h0:0≤a)(h1:a<4294967296)(h:aM w):Calls Tryz.prog 179 #[.int .u32 a, .int .i64 1] w fun e w'=>e= .returned (.int .i64 (a/2%2))∧∃n,w'=w.drewN n:=by
 have hm:=h.m1
 have hb:=acn a h0 h1
 have y0:0≤a/2%2:=by omega
 have y1:a/2%2<2:=by omega
 generalize a/2%2=y at*
 have H:=Lib.hid h
 clear h
 go_enter Tryz.func179,Tryz.ntmps179
 go_wp2
 go_quiet ((go_at_call 219;exact Calls.quiet_of_same (abp _ (H.out.of_cells (fun _ _ _=>rfl)))))
 go_wp2
 go_ret
 exact⟨rfl,_,rfl⟩
theorem aco(a:Int)(h0:0≤a)(h1:a<4294967296):bits BinOp.and IntKind.u32 a 4=(a/4%2)*4:=by
 obtain⟨A,rfl⟩:=Int.eq_ofNat_of_zero_le h0
 rw[u32_and (A:Int) 4 h0 h1 (by omega) (by omega)]
 have:=jT A 2 1
 simp only[show((2^1-1) <<< 2:Nat)=4 from by decide,show(2^2:Nat)=4 from by decide,show(2^1:Nat)=2 from by decide]at this
 simp only[Int.toNat_natCast,show((4:Int).toNat)=4 from rfl,this]
 omega
set_option maxRecDepth 100000 in
set_option maxHeartbeats 400000 in
theorem Np(a:Int)(w:World)(h0:0≤a)(h1:a<4294967296)(h:aM w):Calls Tryz.prog 179 #[.int .u32 a, .int .i64 2] w fun e w'=>e= .returned (.int .i64 (a/4%2))∧∃n,w'=w.drewN n:=by
 have hm:=h.m2
 have hb:=aco a h0 h1
 have y0:0≤a/4%2:=by omega
 have y1:a/4%2<2:=by omega
 generalize a/4%2=y at*
 have H:=Lib.hid h
 clear h
 go_enter Tryz.func179,Tryz.ntmps179
 go_wp2
 go_quiet ((go_at_call 219;exact Calls.quiet_of_same (abq _ (H.out.of_cells (fun _ _ _=>rfl)))))
 go_wp2
 go_ret
 exact⟨rfl,_,rfl⟩
theorem acp(a:Int)(h0:0≤a)(h1:a<4294967296):bits BinOp.and IntKind.u32 a 261888=(a/256%1024)*256:=by
 obtain⟨A,rfl⟩:=Int.eq_ofNat_of_zero_le h0
 rw[u32_and (A:Int) 261888 h0 h1 (by omega) (by omega)]
 have:=jT A 8 10
 simp only[show((2^10-1) <<< 8:Nat)=261888 from by decide,show(2^8:Nat)=256 from by decide,show(2^10:Nat)=1024 from by decide]at this
 simp only[Int.toNat_natCast,show((261888:Int).toNat)=261888 from rfl,this]
 omega
set_option maxRecDepth 100000 in
set_option maxHeartbeats 400000 in
theorem Nq(a:Int)(w:World)(h0:0≤a)(h1:a<4294967296)(h:aM w):Calls Tryz.prog 179 #[.int .u32 a, .int .i64 3] w fun e w'=>e= .returned (.int .i64 (a/256%1024))∧∃n,w'=w.drewN n:=by
 have hm:=h.m3
 have hb:=acp a h0 h1
 have y0:0≤a/256%1024:=by omega
 have y1:a/256%1024<1024:=by omega
 generalize a/256%1024=y at*
 have H:=Lib.hid h
 clear h
 go_enter Tryz.func179,Tryz.ntmps179
 go_wp2
 go_quiet ((go_at_call 219;exact Calls.quiet_of_same (abr _ (H.out.of_cells (fun _ _ _=>rfl)))))
 go_wp2
 go_ret
 exact⟨rfl,_,rfl⟩
theorem acr(a:Int)(h0:0≤a)(h1:a<4294967296):bits BinOp.and IntKind.u32 a 31=(a/1%32)*1:=by
 obtain⟨A,rfl⟩:=Int.eq_ofNat_of_zero_le h0
 rw[u32_and (A:Int) 31 h0 h1 (by omega) (by omega)]
 have:=jT A 0 5
 simp only[show((2^5-1) <<< 0:Nat)=31 from by decide,show(2^0:Nat)=1 from by decide,show(2^5:Nat)=32 from by decide]at this
 simp only[Int.toNat_natCast,show((31:Int).toNat)=31 from rfl,this]
 omega
set_option maxRecDepth 100000 in
set_option maxHeartbeats 400000 in
theorem acs(a:Int)(w:World)(h0:0≤a)(h1:a<4294967296)(h:aM w):Calls Tryz.prog 179 #[.int .u32 a, .int .i64 4] w fun e w'=>e= .returned (.int .i64 (a/1%32))∧∃n,w'=w.drewN n:=by
 have hm:=h.m4
 have hb:=acr a h0 h1
 have y0:0≤a/1%32:=by omega
 have y1:a/1%32<32:=by omega
 generalize a/1%32=y at*
 have H:=Lib.hid h
 clear h
 go_enter Tryz.func179,Tryz.ntmps179
 go_wp2
 go_quiet ((go_at_call 219;exact Calls.quiet_of_same (aeT _ (H.out.of_cells (fun _ _ _=>rfl)))))
 go_wp2
 go_ret
 exact⟨rfl,_,rfl⟩
theorem acu(a:Int)(h0:0≤a)(h1:a<4294967296):bits BinOp.and IntKind.u32 a 992=(a/32%32)*32:=by
 obtain⟨A,rfl⟩:=Int.eq_ofNat_of_zero_le h0
 rw[u32_and (A:Int) 992 h0 h1 (by omega) (by omega)]
 have:=jT A 5 5
 simp only[show((2^5-1) <<< 5:Nat)=992 from by decide,show(2^5:Nat)=32 from by decide]at this
 simp only[Int.toNat_natCast,show((992:Int).toNat)=992 from rfl,this]
 omega
set_option maxRecDepth 100000 in
set_option maxHeartbeats 400000 in
theorem acv(a:Int)(w:World)(h0:0≤a)(h1:a<4294967296)(h:aM w):Calls Tryz.prog 179 #[.int .u32 a, .int .i64 5] w fun e w'=>e= .returned (.int .i64 (a/32%32))∧∃n,w'=w.drewN n:=by
 have hm:=h.m5
 have hb:=acu a h0 h1
 have y0:0≤a/32%32:=by omega
 have y1:a/32%32<32:=by omega
 generalize a/32%32=y at*
 have H:=Lib.hid h
 clear h
 go_enter Tryz.func179,Tryz.ntmps179
 go_wp2
 go_quiet ((go_at_call 219;exact Calls.quiet_of_same (aeU _ (H.out.of_cells (fun _ _ _=>rfl)))))
 go_wp2
 go_ret
 exact⟨rfl,_,rfl⟩
theorem acw(a:Int)(h0:0≤a)(h1:a<4294967296):bits BinOp.and IntKind.u32 a 31744=(a/1024%32)*1024:=by
 obtain⟨A,rfl⟩:=Int.eq_ofNat_of_zero_le h0
 rw[u32_and (A:Int) 31744 h0 h1 (by omega) (by omega)]
 have:=jT A 10 5
 simp only[show((2^5-1) <<< 10:Nat)=31744 from by decide,show(2^10:Nat)=1024 from by decide,show(2^5:Nat)=32 from by decide]at this
 simp only[Int.toNat_natCast,show((31744:Int).toNat)=31744 from rfl,this]
 omega
set_option maxRecDepth 100000 in
set_option maxHeartbeats 400000 in
theorem acy(a:Int)(w:World)(h0:0≤a)(h1:a<4294967296)(h:aM w):Calls Tryz.prog 179 #[.int .u32 a, .int .i64 6] w fun e w'=>e= .returned (.int .i64 (a/1024%32))∧∃n,w'=w.drewN n:=by
 have hm:=h.m6
 have hb:=acw a h0 h1
 have y0:0≤a/1024%32:=by omega
 have y1:a/1024%32<32:=by omega
 generalize a/1024%32=y at*
 have H:=Lib.hid h
 clear h
 go_enter Tryz.func179,Tryz.ntmps179
 go_wp2
 go_quiet ((go_at_call 219;exact Calls.quiet_of_same (aeV _ (H.out.of_cells (fun _ _ _=>rfl)))))
 go_wp2
 go_ret
 exact⟨rfl,_,rfl⟩
theorem acz(a:Int)(h0:0≤a)(h1:a<4294967296):bits BinOp.and IntKind.u32 a 32736=(a/32%1024)*32:=by
 obtain⟨A,rfl⟩:=Int.eq_ofNat_of_zero_le h0
 rw[u32_and (A:Int) 32736 h0 h1 (by omega) (by omega)]
 have:=jT A 5 10
 simp only[show((2^10-1) <<< 5:Nat)=32736 from by decide,show(2^5:Nat)=32 from by decide,show(2^10:Nat)=1024 from by decide]at this
 simp only[Int.toNat_natCast,show((32736:Int).toNat)=32736 from rfl,this]
 omega
set_option maxRecDepth 100000 in
set_option maxHeartbeats 400000 in
theorem acA(a:Int)(w:World)(h0:0≤a)(h1:a<4294967296)(h:aM w):Calls Tryz.prog 179 #[.int .u32 a, .int .i64 7] w fun e w'=>e= .returned (.int .i64 (a/32%1024))∧∃n,w'=w.drewN n:=by
 have hm:=h.m7
 have hb:=acz a h0 h1
 have y0:0≤a/32%1024:=by omega
 have y1:a/32%1024<1024:=by omega
 generalize a/32%1024=y at*
 have H:=Lib.hid h
 clear h
 go_enter Tryz.func179,Tryz.ntmps179
 go_wp2
 go_quiet ((go_at_call 219;exact Calls.quiet_of_same (aeW _ (H.out.of_cells (fun _ _ _=>rfl)))))
 go_wp2
 go_ret
 exact⟨rfl,_,rfl⟩
set_option maxRecDepth 100000 in
set_option maxHeartbeats 400000 in
theorem ah7(n:Int)(w:World)(h0:0≤n)(h1:n<2)(h:aM w):Calls Tryz.prog 241 #[.int .i64 0, .int .i64 n] w fun e w'=>e= .returned (.int .u32 (n))∧w'=w:=by
 go_enter Tryz.func241,Tryz.ntmps241
 go_wp2_with(go_at_call 219;refine(abo _ (by exact h)).mono ?_;rintro e w' ⟨rfl,rfl⟩)
 go_ret
 exact⟨rfl,rfl⟩
set_option maxRecDepth 100000 in
set_option maxHeartbeats 400000 in
theorem ah8(n:Int)(w:World)(h0:0≤n)(h1:n<2)(h:aM w):Calls Tryz.prog 241 #[.int .i64 1, .int .i64 n] w fun e w'=>e= .returned (.int .u32 ((n*2)))∧w'=w:=by
 go_enter Tryz.func241,Tryz.ntmps241
 go_wp2_with(go_at_call 219;refine(abp _ (by exact h)).mono ?_;rintro e w' ⟨rfl,rfl⟩)
 go_ret
 exact⟨rfl,rfl⟩
set_option maxRecDepth 100000 in
set_option maxHeartbeats 400000 in
theorem ah9(n:Int)(w:World)(h0:0≤n)(h1:n<2)(h:aM w):Calls Tryz.prog 241 #[.int .i64 2, .int .i64 n] w fun e w'=>e= .returned (.int .u32 ((n*4)))∧w'=w:=by
 go_enter Tryz.func241,Tryz.ntmps241
 go_wp2_with(go_at_call 219;refine(abq _ (by exact h)).mono ?_;rintro e w' ⟨rfl,rfl⟩)
 go_ret
 exact⟨rfl,rfl⟩
set_option maxRecDepth 100000 in
set_option maxHeartbeats 400000 in
theorem aha(n:Int)(w:World)(h0:0≤n)(h1:n<1024)(h:aM w):Calls Tryz.prog 241 #[.int .i64 3, .int .i64 n] w fun e w'=>e= .returned (.int .u32 ((n*256)))∧w'=w:=by
 go_enter Tryz.func241,Tryz.ntmps241
 go_wp2_with(go_at_call 219;refine(abr _ (by exact h)).mono ?_;rintro e w' ⟨rfl,rfl⟩)
 go_ret
 exact⟨rfl,rfl⟩
def bit(b:Bool):Int:=if b then 1 else 0
theorem Ih(b:Bool)(w:World):Calls Tryz.prog 242 #[.bool b] w fun e w'=>e= .returned (.int .i64 (bit b))∧w'=w:=by
 cases b
 ·go_enter Tryz.func242,Tryz.ntmps242
  go_wp2
  go_ret
  exact⟨rfl,rfl⟩
 ·go_enter Tryz.func242,Tryz.ntmps242
  go_wp2
  go_ret
  exact⟨rfl,rfl⟩
end
section
def nM(p w c:Bool)(f:Int):Bool:=decide (0≤f∧f<1024)&&(p||(!w&& !c&&decide (f=0)))&& !(c&&w)
abbrev ent(p w c:Bool)(f:Int):Value:= .agg #[.bool p, .bool w, .bool c, .int .i64 f]
def acB(b:Bool):Int:=if b then 0 else 2
set_option maxRecDepth 100000 in
set_option maxHeartbeats 2000000 in
theorem xU(p w c:Bool)(f:Int)(W:World):Calls Tryz.prog 231 #[ent p w c f] W fun e w'=>e= .returned (.int .i64 (acB (nM p w c f)))∧Below W.heap.size W w':=by
 by_cases h1:f<0
 ·have e:nM p w c f=false:=by simp[nM];omega
  rw[e]
  clear e
  go_enter Tryz.func231,Tryz.ntmps231
  go_wp2
  go_ret
  exact⟨rfl,(Below.refl _ _).alloc (Nat.le_refl _) _⟩
 by_cases h2:1024≤f
 ·have e:nM p w c f=false:=by simp[nM];omega
  rw[e]
  clear e
  go_enter Tryz.func231,Tryz.ntmps231
  go_wp2
  go_ret
  exact⟨rfl,(Below.refl _ _).alloc (Nat.le_refl _) _⟩
 by_cases h3:f=0
 ·subst h3
  clear h1 h2
  cases p<;>cases w<;>cases c<;>(go_enter Tryz.func231,Tryz.ntmps231;go_wp2;go_ret;exact⟨rfl,(Below.refl _ _).alloc (Nat.le_refl _) _⟩)
 ·have E:∀p w c:Bool,nM p w c f=((p||false)&& !(c&&w)):=by
   intro p w c
   have hr:decide (0≤f∧f<1024)=true:=by simp;omega
   simp[nM,hr,h3]
  have H:=Lib.hid E
  clear E
  cases p<;>cases w<;>cases c<;>(go_enter Tryz.func231,Tryz.ntmps231;go_wp2;go_ret;exact⟨by rw[H.out];rfl,(Below.refl _ _).alloc (Nat.le_refl _) _⟩)
theorem EY(p w c:Bool)(f:Int)(W:World)(h:nM p w c f=true):Calls Tryz.prog 231 #[ent p w c f] W fun e w'=>e= .returned (.int .i64 0)∧Below W.heap.size W w':=by
 have:=xU p w c f W
 rw[h]at this
 exact this
theorem JZ(p w c:Bool)(f:Int)(W:World)(h:nM p w c f=false):Calls Tryz.prog 231 #[ent p w c f] W fun e w'=>e= .returned (.int .i64 2)∧Below W.heap.size W w':=by
 have:=xU p w c f W
 rw[h]at this
 exact this
theorem pQ{W w1:World}{c:Array Value}{t:TypeId}(hb:Below (W.alloc (.cells c t)).heap.size (W.alloc (.cells c t)) w1)(i:Nat):w1.cell? ⟨W.heap.size,i,none⟩=c[i]? :=
 (hb.cell (p:=⟨W.heap.size,i,none⟩) (by simp)).trans (World.cell?_alloc_new ..)
end
end Go.Proofs.YtammlljefhakmaaGreatDoor
