/- Processes that are not there, or that nobody made: what each call answers. Condition: none. -/
import Derived.Test.YtammlljefhakmaaGreatDoorIL
namespace Go.Proofs.YtammlljefhakmaaGreatDoor
open Go.RowKit Go.Maps
set_option maxRecDepth 100000
abbrev nA:Array Value:=#[.pointer none, .pointer none, .int .i64 0, .pointer none, .pointer none, .pointer none]
def rA(w:World)(p:Option Addr):Prop:=p=none∨∃b,p=some ⟨b,0,none⟩∧w.heap[b]? =some (.cells nA 39 (0,0))
theorem rA.below{w w':World}{p:Option Addr}(h:rA w p)(hb:Below w.heap.size w w'):rA w' p:=by
 rcases h with rfl|⟨b,rfl,h⟩
 ·exact Or.inl rfl
 ·exact Or.inr ⟨b,rfl,below_block hb h⟩
theorem zm{w:World}{b:Nat}{t:TypeId}{z:Nat×Nat}(h:w.heap[b]? =some (.cells nA t z)):w.cell? ⟨b,0,none⟩=some (.pointer none)∧w.cell? ⟨b,1,none⟩=some (.pointer none)∧w.cell? ⟨b,2,none⟩=some (.int .i64 0)∧w.cell? ⟨b,3,none⟩=some (.pointer none)∧w.cell? ⟨b,4,none⟩=some (.pointer none)∧w.cell? ⟨b,5,none⟩=some (.pointer none):=by
 have:=fun i=>cell_of_row w b i _ _ _ h
 exact⟨this 0,this 1,this 2,this 3,this 4,this 5⟩
theorem Mx:nA.all (·.oneCell')=true:=by simp[Value.oneCell']
abbrev nO:Obj:= .cells nA 37 (0,0)
section
variable {w:World} {p:Option Addr}
theorem gF(h:rA w p):Calls Tryz.prog 39 #[.pointer p] w fun e w'=>e= .returned (.agg nA)∧Below w.heap.size w w':=by
 have X1:=Lib.hid (heap_alloc_new w nO)
 have B1:=Lib.hid (Below.alloc (Below.refl w.heap.size w) (Nat.le_refl _) nO)
 rcases h with rfl|⟨b,rfl,h⟩
 ·go_enter Tryz.func39,Tryz.ntmps39
  go_wp2_with(refine aH iD rfl (.tmp 2) (.tmp 5) rfl w.heap.size nA rfl rfl _ X1.out rfl rfl Mx ?_)
  exact bodyPost_ret (v:= .agg nA) (adT iD Tryz.results39 _ _ w.heap.size nA rfl (setRow_heap _ _ _ _ _ _ X1.out) rfl) rfl ⟨rfl,below_setRow B1.out (Nat.le_refl _) nA⟩
 ·have X0:=Lib.hid (below_block B1.out h)
  clear h
  go_enter Tryz.func39,Tryz.ntmps39
  go_wp2_with(first|(refine bP iD rfl (.tmp 8) rfl b rfl nA X0.out rfl ?_)|(refine aH iD rfl (.tmp 2) (.tmp 9) rfl w.heap.size nA rfl rfl _ X1.out rfl rfl Mx ?_))
  exact bodyPost_ret (v:= .agg nA) (adT iD Tryz.results39 _ _ w.heap.size nA rfl (setRow_heap _ _ _ _ _ _ X1.out) rfl) rfl ⟨rfl,below_setRow B1.out (Nat.le_refl _) nA⟩
theorem xG(pid:Int)(may:Bool):Calls Tryz.prog 49 #[.agg nA, .int .i64 pid, .bool may] w fun e w'=>e= .returned (.tuple #[.agg #[.int .i64 0, .int .i64 0, .int .i64 0, .int .u32 0], .int .i64 1])∧Below w.heap.size w w':=by
 have B2:=Lib.hid (ak w nO (.cells #[.int .i64 0, .int .i64 0, .int .i64 0, .int .u32 0] 76))
 have X1:=Lib.hid (heap_alloc2_old w nO (.cells #[.int .i64 0, .int .i64 0, .int .i64 0, .int .u32 0] 76))
 have X2:=Lib.hid (heap_alloc2_new w nO (.cells #[.int .i64 0, .int .i64 0, .int .i64 0, .int .u32 0] 76))
 obtain⟨c0, -⟩:=zm X1.out
 go_enter Tryz.func49,Tryz.ntmps49
 go_wp2_with fail
 exact bodyPost_ret (v:= .tuple #[.agg (rP (0,0,0,0)), .int .i64 1]) (zU tV Tryz.results49 _ _ (w.heap.size+1) (rP (0,0,0,0)) _ rfl rfl X2.out rfl) rfl ⟨rfl,B2.out⟩
theorem OH(pid:Int):Calls Tryz.prog 41 #[.agg nA, .int .i64 pid] w fun e w'=>e= .returned (.int .i64 0)∧Below w.heap.size w w':=by
 have B1:=Lib.hid (Below.alloc (Below.refl w.heap.size w) (Nat.le_refl _) nO)
 have X1:=Lib.hid (heap_alloc_new w nO)
 have AL:=Lib.hid (Rl none (w.alloc nO) (Or.inl rfl))
 obtain⟨-, -, -,c3, -, -⟩:=zm X1.out
 go_enter Tryz.func41,Tryz.ntmps41
 go_wp2_with fail
 refine AL.out.mono ?_
 rintro e w2 ⟨rfl,hb⟩
 have B2:=Lib.hid (B1.out.trans (hb.mono B1.out.size))
 clear hb c3
 go_wp2_with fail
 go_loopw [11] (fun s wr=>s= .int .i64 0∧wr=w2) (fun _ _=>0)
 case atStart=>exact⟨rfl,rfl⟩
 case round=>
  obtain⟨rfl,rfl⟩:=hrel
  go_wp2
  go_ret
  exact⟨rfl,B2.out⟩
set_option maxHeartbeats 4000000 in
theorem QL(pid quota needs:Int)(k:Nat)(caps:Array Value):Calls Tryz.prog 40 #[.agg nA, .int .i64 pid, .int .i64 quota, .int .i64 needs, .func (.func k) #[] caps] w fun e w'=>e= .returned (.tuple #[.int .i64 0, .int .i64 1])∧Below w.heap.size w w':=by
 obtain⟨w1,hw1⟩:∃w1,w1=w.alloc nO:=⟨_,rfl⟩
 have X1:Hid (w1.heap[w.heap.size]? =some nO):=Lib.hid (by rw[hw1];exact heap_alloc_new w _)
 have B1:Hid (Below w.heap.size w w1):=Lib.hid (by rw[hw1];exact Below.alloc (Below.refl w.heap.size w) (Nat.le_refl _) _)
 obtain⟨qb,hqb⟩:∃qb,qb=mO quota:=⟨_,rfl⟩
 have IQ:=Lib.hid (fun V=>jM quota V rfl)
 rw[←hqb]at IQ
 obtain⟨x0,x1,x2,x3,ex0,ex1,ex2,ex3⟩:∃x0 x1 x2 x3:Int,x0=0∧x1=0∧x2=0∧x3=0:=⟨0,0,0,0,rfl,rfl,rfl,rfl⟩
 have FI:Hid (∀V:World,Calls Tryz.prog 49 #[.agg nA, .int .i64 pid, .bool qb] V fun e w'=>e= .returned (.tuple #[.agg #[.int .i64 x0, .int .i64 x1, .int .i64 x2, .int .u32 x3], .int .i64 1])∧Below V.heap.size V w'):=Lib.hid fun V=>by rw[ex0,ex1,ex2,ex3];exact xG (w:=V) pid qb
 clear ex0 ex1 ex2 ex3
 have LC:=Lib.hid (fun V (hb:Below w1.heap.size w1 V)=>zm (below_block hb X1.out))
 clear hqb
 go_enter Tryz.func40,Tryz.ntmps40
 go_wp2_with fail
 rw[←hw1]
 clear hw1
 obtain⟨c0,c1,c2,c3,c4,c5⟩:=LC.out w1 (Below.refl _ _)
 go_cut [13] (fun v13 wx=>v13= .int .i64 1∧Below w1.heap.size w1 wx)
 case first=>
  go_region_held3 (fun V=>V.cell? ⟨w.heap.size,0,none⟩=some (.pointer none)∧V.cell? ⟨w.heap.size,1,none⟩=some (.pointer none)∧V.cell? ⟨w.heap.size,2,none⟩=some (.int .i64 0)∧V.cell? ⟨w.heap.size,3,none⟩=some (.pointer none)∧V.cell? ⟨w.heap.size,4,none⟩=some (.pointer none)∧V.cell? ⟨w.heap.size,5,none⟩=some (.pointer none)) (first
    |with_reducible exact LC.out w9 B9.out
    |with_reducible exact LC.out _ (Below.refl _ _).drew
    |with_reducible exact LC.out _ ((Below.refl _ _).alloc (Nat.le_refl _) _).drew
    |with_reducible exact LC.out _ (B9.out.alloc B9.out.size _)
    |with_reducible exact LC.out _ UJ.out)
   (first
    |((go_at_call 68;with_reducible refine(IQ.out _).mono ?_);rintro e w2 ⟨rfl,rfl⟩)
    |((go_at_call 49;with_reducible refine(FI.out w1.drew).mono ?_);rintro e w9 ⟨rfl,hb⟩;have B9:Hid (Below w1.heap.size w1 w9):=Lib.hid ((Below.refl _ _).drew.trans hb);clear hb)
    |((go_at_call 49;with_reducible refine(FI.out (w1.alloc yZ).drew).mono ?_);rintro e w9 ⟨rfl,hb⟩;have B9:Hid (Below w1.heap.size w1 w9):=Lib.hid (((Below.refl w1.heap.size w1).alloc (Nat.le_refl _) yZ).drew.trans (hb.mono ((Below.refl w1.heap.size w1).alloc (Nat.le_refl _) yZ).drew.size));have E9:Hid (w9.heap[w1.heap.size]? =some yZ):=Lib.hid (below_block hb (heap_alloc_new w1 _));have f0:=frozen_of_row _ w1.heap.size 0 _ _ E9.out;have f1:=frozen_of_row _ w1.heap.size 1 _ _ E9.out;have f2:=frozen_of_row _ w1.heap.size 2 _ _ E9.out;have f3:=frozen_of_row _ w1.heap.size 3 _ _ E9.out;have UJ:=Lib.hid (DF (.int .i64 x0) (.int .i64 x1) (.int .i64 x2) (.int .u32 x3) B9.out (Nat.le_refl _));obtain⟨e0,e1,e2,e3, -⟩:=D9 E9.out;clear hb))
  all_goals
   go_wp2_with fail
   go_meet
   case rel=>first|exact⟨rfl,UJ.out⟩|exact⟨rfl,B9.out.alloc B9.out.size _⟩
 case rest=>
  obtain⟨rfl,hb⟩:=hcut
  have B2:=Lib.hid (B1.out.trans (hb.mono B1.out.size))
  clear hb
  go_wp2_with fail
  go_ret2
  exact⟨rfl,B2.out⟩
set_option maxHeartbeats 4000000 in
theorem QM(h:rA w p)(pid quota:Int):Calls Tryz.prog 11 #[.pointer p, .int .i64 pid, .int .i64 quota] w fun e w'=>e= .returned (.tuple #[.int .i64 0, .int .i64 1])∧Below w.heap.size w w':=by
 have pE:∀(fn:Fn) (first cap:Array Value) (w:World),(Instr.makeFunc fn first cap).run Tryz.prog w= .ok (.func fn first cap) w:=fun _ _ _ _=>rfl
 have B1:=Lib.hid (Below.alloc (Below.refl w.heap.size w) (Nat.le_refl _) (.cells #[.int .i64 pid] 3))
 have Y1:=Lib.hid (heap_alloc_new w (.cells #[.int .i64 pid] 3))
 have MD:=Lib.hid (gF (h.below B1.out))
 have CH:=Lib.hid (fun V:World=>OH (w:=V) pid)
 have BF:=Lib.hid (fun(V:World) caps=>QL (w:=V) pid quota 0 42 caps)
 clear h
 go_enter Tryz.func11,Tryz.ntmps11
 go_wp2_with fail
 refine MD.out.mono ?_
 rintro e w2 ⟨rfl,hb⟩
 have B2:=Lib.hid (B1.out.trans (hb.mono B1.out.size))
 have Y2:=Lib.hid (below_block hb Y1.out)
 have Z2:=Lib.hid (heap_alloc_new w2 nO)
 clear hb
 go_wp2_with(refine aH iD rfl (.tmp 8) (.tmp 10) rfl w2.heap.size nA rfl rfl _ Z2.out rfl rfl Mx ?_)
 obtain⟨w3,hw3⟩:∃w3,w3=(w2.alloc nO).setRow w2.heap.size nA:=⟨_,rfl⟩
 have B3:Hid (Below w.heap.size w w3):=Lib.hid (by rw[hw3];exact below_setRow (B2.out.alloc B2.out.size nO) B2.out.size nA)
 have X3:Hid (w3.heap[w2.heap.size]? =some nO):=Lib.hid (by rw[hw3];exact setRow_heap _ _ _ _ _ _ Z2.out)
 have Y3:Hid (w3.heap[w.heap.size]? =some (.cells #[.int .i64 pid] 3 (0,0))):=Lib.hid (by rw[hw3];exact bU _ _ (Nat.ne_of_lt (lt_of_block Y2.out)) ((heap_alloc_old _ _ (lt_of_block Y2.out)).trans Y2.out))
 rw[←hw3]
 clear hw3
 have LC:Hid (∀V,Below w3.heap.size w3 V→V.cell? ⟨w2.heap.size,0,none⟩=some (.pointer none)∧V.cell? ⟨w2.heap.size,1,none⟩=some (.pointer none)∧V.cell? ⟨w2.heap.size,2,none⟩=some (.int .i64 0)∧V.cell? ⟨w2.heap.size,3,none⟩=some (.pointer none)∧V.cell? ⟨w2.heap.size,4,none⟩=some (.pointer none)∧V.cell? ⟨w2.heap.size,5,none⟩=some (.pointer none)∧V.cell? ⟨w.heap.size,0,none⟩=some (.int .i64 pid)):=Lib.hid fun V hb=>by
  obtain⟨c0,c1,c2,c3,c4,c5⟩:=zm (below_block hb X3.out)
  exact⟨c0,c1,c2,c3,c4,c5,by rw[cell_of_row V w.heap.size 0 _ _ _ (below_block hb Y3.out)];rfl⟩
 obtain⟨c0,c1,c2,c3,c4,c5,y0⟩:=LC.out w3 (Below.refl _ _)
 go_region_held3 (fun V=>V.cell? ⟨w2.heap.size,0,none⟩=some (.pointer none)∧V.cell? ⟨w2.heap.size,1,none⟩=some (.pointer none)∧V.cell? ⟨w2.heap.size,2,none⟩=some (.int .i64 0)∧V.cell? ⟨w2.heap.size,3,none⟩=some (.pointer none)∧V.cell? ⟨w2.heap.size,4,none⟩=some (.pointer none)∧V.cell? ⟨w2.heap.size,5,none⟩=some (.pointer none)∧V.cell? ⟨w.heap.size,0,none⟩=some (.int .i64 pid)) (first
   |with_reducible exact LC.out w9 B9.out
   |with_reducible exact LC.out w10 B10.out
   |with_reducible exact LC.out _ (Below.refl _ _).drew
   |with_reducible exact LC.out _ (Below.refl _ _))
  (first
   |((go_at_call 41;with_reducible refine(CH.out _).mono ?_);rintro e w9 ⟨rfl,hb⟩;have B9:Hid (Below w3.heap.size w3 w9):=Lib.hid ((Below.refl _ _).drew.trans hb);clear hb)
   |((go_at_call 40;with_reducible refine(BF.out w9 _).mono ?_);rintro e w10 ⟨rfl,hb⟩;have B10:=Lib.hid (B9.out.trans (hb.mono B9.out.size));clear hb))
 all_goals
  go_wp2_with fail
  go_ret2
  exact⟨rfl,B3.out.trans (B10.out.mono B3.out.size)⟩
theorem MB(h:rA w p)(pid quota a:Int):Calls Tryz.prog 12 #[.pointer p, .int .i64 pid, .int .i64 quota, .int .u32 a] w fun e w'=>e= .returned (.tuple #[.int .i64 0, .int .i64 1])∧Below w.heap.size w w':=by
 have pE:∀(fn:Fn) (first cap:Array Value) (w:World),(Instr.makeFunc fn first cap).run Tryz.prog w= .ok (.func fn first cap) w:=fun _ _ _ _=>rfl
 have B1:=Lib.hid (Below.alloc (Below.refl w.heap.size w) (Nat.le_refl _) (.cells #[.int .u32 a] 25))
 have MD:=Lib.hid (gF (h.below B1.out))
 have BF:=Lib.hid (fun(V:World) caps=>QL (w:=V) pid quota 1 46 caps)
 clear h
 go_enter Tryz.func12,Tryz.ntmps12
 go_wp2_with fail
 refine MD.out.mono ?_
 rintro e w2 ⟨rfl,hb⟩
 have B2:=Lib.hid (B1.out.trans (hb.mono B1.out.size))
 have Z2:=Lib.hid (heap_alloc_new w2 nO)
 have B3:=Lib.hid (below_setRow (B2.out.alloc B2.out.size nO) B2.out.size nA)
 have X3:=Lib.hid (setRow_heap _ _ _ nA _ _ Z2.out)
 clear hb
 go_wp2_with(first|(refine aH iD rfl (.tmp 10) (.tmp 12) rfl w2.heap.size nA rfl rfl _ Z2.out rfl rfl Mx ?_)|(refine bP iD rfl (.tmp 10) rfl w2.heap.size rfl nA X3.out rfl ?_))
 refine(BF.out _ _).mono ?_
 rintro e w4 ⟨rfl,hb⟩
 have B4:=Lib.hid (B3.out.trans (hb.mono B3.out.size))
 clear hb
 go_wp2_with fail
 go_ret2
 exact⟨rfl,B4.out⟩
theorem DN(h:rA w p):Calls Tryz.prog 13 #[.pointer p] w fun e w'=>e= .returned (.tuple #[.int .i64 0, .bool false])∧Below w.heap.size w w':=by
 have MD:=Lib.hid (gF h)
 clear h
 have hfl:=Mr
 go_enter Tryz.func13,Tryz.ntmps13
 go_wp2_with fail
 refine MD.out.mono ?_
 rintro e w2 ⟨rfl,hb⟩
 have B2:=Lib.hid hb
 clear hb
 go_wp2_with fail
 refine(VF none w2 (Or.inl rfl)).mono ?_
 rintro e w3 ⟨rfl,rfl⟩
 go_wp2_with fail
 go_ret2
 exact⟨rfl,B2.out⟩
theorem MC(h:rA w p):Calls Tryz.prog 15 #[.pointer p] w fun e w'=>e= .returned (.tuple #[])∧Below w.heap.size w w':=by
 have MD:=Lib.hid (gF h)
 clear h
 have hfl:=Mr
 go_enter Tryz.func15,Tryz.ntmps15
 go_wp2_with fail
 refine MD.out.mono ?_
 rintro e w2 ⟨rfl,hb⟩
 have B2:=Lib.hid hb
 clear hb
 go_wp2_with fail
 refine(VI none w2 (Or.inl rfl)).mono ?_
 rintro e w3 ⟨rfl,rfl⟩
 go_wp2_with fail
 go_end0
 exact⟨rfl,B2.out⟩
theorem QO(h:rA w p)(pid:Int):Calls Tryz.prog 14 #[.pointer p, .int .i64 pid] w fun e w'=>e= .returned (.tuple #[.agg (ah z8), .int .i64 1])∧Below w.heap.size w w':=by
 have hz2:=Gw
 have B1:=Lib.hid (Below.alloc (Below.refl w.heap.size w) (Nat.le_refl _) (vX z8))
 have Y1:=Lib.hid (heap_alloc_new w (vX z8))
 have MD:=Lib.hid (gF (h.below B1.out))
 have FI:=Lib.hid (fun V:World=>xG (w:=V) pid true)
 clear h
 go_enter Tryz.func14,Tryz.ntmps14
 go_wp2_with fail
 refine MD.out.mono ?_
 rintro e w2 ⟨rfl,hb⟩
 have B2:=Lib.hid (B1.out.trans (hb.mono B1.out.size))
 have Y2:=Lib.hid (below_block hb Y1.out)
 clear hb
 have Z2:=Lib.hid (heap_alloc_new w2 nO)
 have B3:=Lib.hid (below_setRow (B2.out.alloc B2.out.size nO) B2.out.size nA)
 have X3:=Lib.hid (setRow_heap _ _ _ nA _ _ Z2.out)
 have Y3:=Lib.hid (bU _ nA (Nat.ne_of_lt (lt_of_block Y2.out)) ((heap_alloc_old _ nO (lt_of_block Y2.out)).trans Y2.out))
 go_wp2_with(first|(refine aH iD rfl (.tmp 6) (.tmp 10) rfl w2.heap.size nA rfl rfl _ Z2.out rfl rfl Mx ?_)|(refine bP iD rfl (.tmp 6) rfl w2.heap.size rfl nA X3.out rfl ?_))
 refine(FI.out _).mono ?_
 rintro e w4 ⟨rfl,hb⟩
 have B4:=Lib.hid (B3.out.trans (hb.mono B3.out.size))
 have Y4:=Lib.hid (below_block hb Y3.out)
 clear hb
 have Z4:=Lib.hid (heap_alloc_new w4 yZ)
 have B5:=Lib.hid (below_setRow (B4.out.alloc B4.out.size yZ) B4.out.size (rP (0,0,0,0)))
 have Y5:=Lib.hid (bU _ (rP (0,0,0,0)) (Nat.ne_of_lt (lt_of_block Y4.out)) ((heap_alloc_old _ yZ (lt_of_block Y4.out)).trans Y4.out))
 go_wp2_with(first|(refine aH tV rfl (.tmp 7) (.tmp 15) rfl w4.heap.size (rP (0,0,0,0)) rfl rfl _ Z4.out rfl rfl (rQ (0,0,0,0)) ?_)|(refine aH vW rfl (.tmp 4) (.tmp 19) rfl w.heap.size (ah z8) rfl rfl _ Y5.out rfl rfl (fJ z8) ?_))
 exact bodyPost_ret (v:= .tuple #[.agg (ah z8), .int .i64 1]) (zU vW Tryz.results14 _ _ w.heap.size (ah z8) _ rfl rfl (setRow_heap _ _ _ _ _ _ Y5.out) rfl) rfl ⟨rfl,below_setRow B5.out (Nat.le_refl _) _⟩
theorem QS(h:rA w p)(pid a:Int):Calls Tryz.prog 16 #[.pointer p, .int .i64 pid, .int .u32 a] w fun e w'=>e= .returned (.int .i64 1)∧Below w.heap.size w w':=by
 have MD:=Lib.hid (gF h)
 clear h
 go_enter Tryz.func16,Tryz.ntmps16
 go_wp2_with fail
 refine MD.out.mono ?_
 rintro e w2 ⟨rfl,hb⟩
 have B2:=Lib.hid hb
 clear hb
 have Z2:=Lib.hid (heap_alloc_new w2 nO)
 have B3:=Lib.hid (below_setRow (B2.out.alloc B2.out.size nO) B2.out.size nA)
 have X3:=Lib.hid (setRow_heap _ _ _ nA _ _ Z2.out)
 obtain⟨c0, -⟩:=zm X3.out
 go_wp2_with(refine aH iD rfl (.tmp 7) (.tmp 11) rfl w2.heap.size nA rfl rfl _ Z2.out rfl rfl Mx ?_)
 refine(Vw none pid a _ (Or.inl rfl)).mono ?_
 rintro e w4 ⟨rfl,rfl⟩
 go_wp2_with fail
 go_ret
 exact⟨rfl,B3.out⟩
theorem QT(h:rA w p)(pid:Int):Calls Tryz.prog 17 #[.pointer p, .int .i64 pid] w fun e w'=>e= .returned (.int .i64 1)∧Below w.heap.size w w':=by
 have B1:=Lib.hid (Below.alloc (Below.refl w.heap.size w) (Nat.le_refl _) (.cells #[.int .i64 pid] 3))
 have Y1:=Lib.hid (heap_alloc_new w (.cells #[.int .i64 pid] 3))
 have MD:=Lib.hid (gF (h.below B1.out))
 clear h
 go_enter Tryz.func17,Tryz.ntmps17
 go_wp2_with fail
 refine MD.out.mono ?_
 rintro e w2 ⟨rfl,hb⟩
 have B2:=Lib.hid (B1.out.trans (hb.mono B1.out.size))
 have Y2:=Lib.hid (below_block hb Y1.out)
 clear hb
 have Z2:=Lib.hid (heap_alloc_new w2 nO)
 have B3:=Lib.hid (below_setRow (B2.out.alloc B2.out.size nO) B2.out.size nA)
 have X3:=Lib.hid (setRow_heap _ _ _ nA _ _ Z2.out)
 have Y3:=Lib.hid (bU _ nA (Nat.ne_of_lt (lt_of_block Y2.out)) ((heap_alloc_old _ nO (lt_of_block Y2.out)).trans Y2.out))
 obtain⟨c0, -⟩:=zm X3.out
 have y0:((w2.alloc nO).setRow w2.heap.size nA).cell? ⟨w.heap.size,0,none⟩=some (.int .i64 pid):=by rw[cell_of_row _ w.heap.size 0 _ _ _ Y3.out];rfl
 go_wp2_with(refine aH iD rfl (.tmp 5) (.tmp 10) rfl w2.heap.size nA rfl rfl _ Z2.out rfl rfl Mx ?_)
 refine(Vz none pid _ (Or.inl rfl)).mono ?_
 rintro e w4 ⟨rfl,rfl⟩
 go_wp2_with fail
 go_ret
 exact⟨rfl,B3.out⟩
theorem QU(h:rA w p)(pid ch a:Int):Calls Tryz.prog 18 #[.pointer p, .int .i64 pid, .int .i64 ch, .int .u32 a] w fun e w'=>e= .returned (.int .i64 1)∧Below w.heap.size w w':=by
 have MD:=Lib.hid (gF h)
 have FI:=Lib.hid (fun V:World=>xG (w:=V) ch true)
 clear h
 go_enter Tryz.func18,Tryz.ntmps18
 go_wp2_with fail
 refine MD.out.mono ?_
 rintro e w2 ⟨rfl,hb⟩
 have B2:=Lib.hid hb
 clear hb
 go_wp2_with fail
 refine(FI.out w2).mono ?_
 rintro e w4 ⟨rfl,hb⟩
 have B4:=Lib.hid (B2.out.trans (hb.mono B2.out.size))
 have Z4:=Lib.hid (heap_alloc_new w4 yZ)
 have B5:=Lib.hid (below_setRow (B4.out.alloc B4.out.size yZ) B4.out.size (rP (0,0,0,0)))
 clear hb
 go_wp2_with(refine aH tV rfl (.tmp 9) (.tmp 16) rfl w4.heap.size (rP (0,0,0,0)) rfl rfl _ Z4.out rfl rfl (rQ (0,0,0,0)) ?_)
 go_ret
 exact⟨rfl,B5.out⟩
theorem QV(h:rA w p)(pid a:Int):Calls Tryz.prog 19 #[.pointer p, .int .i64 pid, .int .i64 0, .int .u32 a] w fun e w'=>e= .returned (.int .i64 1)∧Below w.heap.size w w':=by
 have B1:=Lib.hid (ak w (.cells #[.int .i64 0] 3) (.cells #[.int .u32 a] 25))
 have R1:=Lib.hid (heap_alloc2_old w (.cells #[.int .i64 0] 3) (.cells #[.int .u32 a] 25))
 have MD:=Lib.hid (gF (h.below B1.out))
 have FI:=Lib.hid (fun V:World=>xG (w:=V) pid true)
 clear h
 go_enter Tryz.func19,Tryz.ntmps19
 go_wp2_with fail
 refine MD.out.mono ?_
 rintro e w2 ⟨rfl,hb⟩
 have B2:=Lib.hid (B1.out.trans (hb.mono B1.out.size))
 have R2:=Lib.hid (below_block hb R1.out)
 clear hb
 have Z2:=Lib.hid (heap_alloc_new w2 nO)
 have B3:=Lib.hid (below_setRow (B2.out.alloc B2.out.size nO) B2.out.size nA)
 have X3:=Lib.hid (setRow_heap _ _ _ nA _ _ Z2.out)
 have R3:=Lib.hid (bU _ nA (Nat.ne_of_lt (lt_of_block R2.out)) ((heap_alloc_old _ nO (lt_of_block R2.out)).trans R2.out))
 have r0:((w2.alloc nO).setRow w2.heap.size nA).cell? ⟨w.heap.size,0,none⟩=some (.int .i64 0):=by rw[cell_of_row _ w.heap.size 0 _ _ _ R3.out];rfl
 go_wp2_with(first|(refine aH iD rfl (.tmp 9) (.tmp 13) rfl w2.heap.size nA rfl rfl _ Z2.out rfl rfl Mx ?_)|(refine bP iD rfl (.tmp 9) rfl w2.heap.size rfl nA X3.out rfl ?_))
 refine(FI.out _).mono ?_
 rintro e w4 ⟨rfl,hb⟩
 have B4:=Lib.hid (B3.out.trans (hb.mono B3.out.size))
 have Z4:=Lib.hid (heap_alloc_new w4 yZ)
 have B5:=Lib.hid (below_setRow (B4.out.alloc B4.out.size yZ) B4.out.size (rP (0,0,0,0)))
 clear hb r0
 go_wp2_with(refine aH tV rfl (.tmp 10) (.tmp 24) rfl w4.heap.size (rP (0,0,0,0)) rfl rfl _ Z4.out rfl rfl (rQ (0,0,0,0)) ?_)
 go_ret
 exact⟨rfl,B5.out⟩
theorem QW(h:rA w p):Calls Tryz.prog 20 #[.pointer p] w fun e w'=>e= .returned (.slice none 0 0)∧Below w.heap.size w w':=by
 have MD:=Lib.hid (gF h)
 clear h
 have hfl:=abQ
 go_enter Tryz.func20,Tryz.ntmps20
 go_wp2_with fail
 refine MD.out.mono ?_
 rintro e w2 ⟨rfl,hb⟩
 have B2:=Lib.hid hb
 clear hb
 go_wp2_with fail
 refine(Zr none w2 (Or.inl rfl)).mono ?_
 rintro e w3 ⟨rfl,rfl⟩
 go_wp2_with fail
 go_ret
 exact⟨rfl,B2.out⟩
theorem QY(h:rA w p):Calls Tryz.prog 21 #[.pointer p] w fun e w'=>e= .returned (.slice none 0 0)∧Below w.heap.size w w':=by
 have MD:=Lib.hid (gF h)
 clear h
 have hfl:=Mr
 go_enter Tryz.func21,Tryz.ntmps21
 go_wp2_with fail
 refine MD.out.mono ?_
 rintro e w2 ⟨rfl,hb⟩
 have B2:=Lib.hid hb
 clear hb
 go_wp2_with fail
 refine(ZE none w2 (Or.inl rfl)).mono ?_
 rintro e w3 ⟨rfl,rfl⟩
 go_wp2_with fail
 go_ret
 exact⟨rfl,B2.out⟩
theorem MH(h:rA w p)(pid:Int):Calls Tryz.prog 22 #[.pointer p, .int .i64 pid] w fun e w'=>e= .returned (.int .i64 0)∧Below w.heap.size w w':=by
 have MD:=Lib.hid (gF h)
 clear h
 have hfl:=abR
 go_enter Tryz.func22,Tryz.ntmps22
 go_wp2_with fail
 refine MD.out.mono ?_
 rintro e w2 ⟨rfl,hb⟩
 have B2:=Lib.hid hb
 clear hb
 go_wp2_with fail
 refine(Rj none pid w2 (Or.inl rfl)).mono ?_
 rintro e w3 ⟨rfl,hb⟩
 have B3:=Lib.hid (B2.out.trans (hb.mono B2.out.size))
 clear hb
 go_wp2_with fail
 go_ret
 exact⟨rfl,B3.out⟩
theorem G7(h:rA w p):Calls Tryz.prog 23 #[.pointer p] w fun e w'=>e= .returned (.pointer none)∧Below w.heap.size w w':=by
 have MD:=Lib.hid (gF h)
 clear h
 have hfl:=abS
 go_enter Tryz.func23,Tryz.ntmps23
 go_wp2_with fail
 refine MD.out.mono ?_
 rintro e w2 ⟨rfl,hb⟩
 have B2:=Lib.hid hb
 clear hb
 go_wp2_with fail
 go_ret
 exact⟨rfl,B2.out⟩
end
end Go.Proofs.YtammlljefhakmaaGreatDoor
