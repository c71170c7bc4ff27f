/- Helps of the proof. No condition. -/
import Derived.Test.YtammlljefhakmaaGreatDoorGA
import Derived.StillTailTactics
namespace Go.Proofs.YtammlljefhakmaaGreatDoor
open Go.RowKit
set_option maxRecDepth 100000
def J3(a b:Int):Int:=bits BinOp.or IntKind.u32 a b
theorem acC(f x:Nat)(hx:x<256)(hf:f<1024):J3 (x:Int) ((f:Int)*256)=(f:Int)*256+x:=by
 have e:((f:Int)*256)=((f*256:Nat):Int):=by omega
 unfold J3
 rw[e,u32_or_nat x (f*256) (by omega) (by omega),Nat.or_comm]
 have:=Nat.two_pow_add_eq_or_of_lt (i:=8) (b:=x) (by omega) f
 rw[Nat.mul_comm f 256,show(256:Nat)=2^8 from rfl,←this]
 omega
def fu(p w c:Bool)(f:Int):Int:=256*f+bit p+2*bit w+4*bit c
theorem RP(p w c:Bool)(f:Int)(h0:0≤f)(h1:f<1024):J3 (J3 (J3 (J3 0 (bit p)) (bit w*2)) (bit c*4)) (f*256)=fu p w c f:=by
 obtain⟨F,rfl⟩:=Int.eq_ofNat_of_zero_le h0
 have hF:F<1024:=by omega
 have e:∃x:Nat,x<256∧J3 (J3 (J3 0 (bit p)) (bit w*2)) (bit c*4)=(x:Int)∧(x:Int)=bit p+2*bit w+4*bit c:=by
  cases p<;>cases w<;>cases c
  ·exact⟨0,by decide,by decide,by decide⟩
  ·exact⟨4,by decide,by decide,by decide⟩
  ·exact⟨2,by decide,by decide,by decide⟩
  ·exact⟨6,by decide,by decide,by decide⟩
  ·exact⟨1,by decide,by decide,by decide⟩
  ·exact⟨5,by decide,by decide,by decide⟩
  ·exact⟨3,by decide,by decide,by decide⟩
  ·exact⟨7,by decide,by decide,by decide⟩
 obtain⟨x,hx,e1,e2⟩:=e
 rw[e1,acC F x hx hF,e2]
 unfold fu
 omega
theorem jG(b:Bool):0≤bit b:=by cases b<;>decide
theorem jH(b:Bool):bit b<2:=by cases b<;>decide
set_option maxRecDepth 100000 in
set_option maxHeartbeats 400000 in
theorem acD(n v:Int)(b:Nat)(w:World)(h0:0≤n)(h1:n<2)(h:aM w)(hc:w.cell? ⟨b,0,none⟩=some (.int .u32 v))(hf:w.frozen? ⟨b,0,none⟩=false):
  Calls Tryz.prog 240 #[.int .i64 0, .int .i64 n, .pointer (some ⟨b,0,none⟩)] w fun e w'=>e= .returned (.tuple #[])∧Below b w w'∧w'.cell? ⟨b,0,none⟩=some (.int .u32 (J3 v n))∧w'.frozen? ⟨b,0,none⟩=false∧w'.heap.size=w.heap.size:=by
 have H:=Lib.hid h
 clear h
 go_enter Tryz.func240,Tryz.ntmps240
 go_wp2
 refine wp_region_still_tail 5 (by kernel_rfl) (by kernel_rfl) ?_
 simp only[List.take_succ_cons,List.take_zero,List.drop_succ_cons,List.drop_zero]
 still_step
 still_step
 still_step
 still_call (ah7 _ _ h0 h1 (H.out.of_cells (fun _ _ _=>rfl)))
 still_step
 refine wpStill_nil ?_
 go_wp2
 go_end0
 refine⟨rfl,((Below.refl _ _).setCell (p:=⟨b,0,none⟩) (Nat.le_refl _) _).drew,?_,?_,?_⟩
 ·simp[J3,World.cell?_setCell_same _ _ _ hc]
 ·simpa using hf
 ·simp
set_option maxRecDepth 100000 in
set_option maxHeartbeats 400000 in
theorem acE(n v:Int)(b:Nat)(w:World)(h0:0≤n)(h1:n<2)(h:aM w)(hc:w.cell? ⟨b,0,none⟩=some (.int .u32 v))(hf:w.frozen? ⟨b,0,none⟩=false):
  Calls Tryz.prog 240 #[.int .i64 1, .int .i64 n, .pointer (some ⟨b,0,none⟩)] w fun e w'=>e= .returned (.tuple #[])∧Below b w w'∧w'.cell? ⟨b,0,none⟩=some (.int .u32 (J3 v (n*2)))∧w'.frozen? ⟨b,0,none⟩=false∧w'.heap.size=w.heap.size:=by
 have H:=Lib.hid h
 clear h
 go_enter Tryz.func240,Tryz.ntmps240
 go_wp2
 refine wp_region_still_tail 5 (by kernel_rfl) (by kernel_rfl) ?_
 simp only[List.take_succ_cons,List.take_zero,List.drop_succ_cons,List.drop_zero]
 still_step
 still_step
 still_step
 still_call (ah8 _ _ h0 h1 (H.out.of_cells (fun _ _ _=>rfl)))
 still_step
 refine wpStill_nil ?_
 go_wp2
 go_end0
 refine⟨rfl,((Below.refl _ _).setCell (p:=⟨b,0,none⟩) (Nat.le_refl _) _).drew,?_,?_,?_⟩
 ·simp[J3,World.cell?_setCell_same _ _ _ hc]
 ·simpa using hf
 ·simp
set_option maxRecDepth 100000 in
set_option maxHeartbeats 400000 in
theorem acF(n v:Int)(b:Nat)(w:World)(h0:0≤n)(h1:n<2)(h:aM w)(hc:w.cell? ⟨b,0,none⟩=some (.int .u32 v))(hf:w.frozen? ⟨b,0,none⟩=false):
  Calls Tryz.prog 240 #[.int .i64 2, .int .i64 n, .pointer (some ⟨b,0,none⟩)] w fun e w'=>e= .returned (.tuple #[])∧Below b w w'∧w'.cell? ⟨b,0,none⟩=some (.int .u32 (J3 v (n*4)))∧w'.frozen? ⟨b,0,none⟩=false∧w'.heap.size=w.heap.size:=by
 have H:=Lib.hid h
 clear h
 go_enter Tryz.func240,Tryz.ntmps240
 go_wp2
 refine wp_region_still_tail 5 (by kernel_rfl) (by kernel_rfl) ?_
 simp only[List.take_succ_cons,List.take_zero,List.drop_succ_cons,List.drop_zero]
 still_step
 still_step
 still_step
 still_call (ah9 _ _ h0 h1 (H.out.of_cells (fun _ _ _=>rfl)))
 still_step
 refine wpStill_nil ?_
 go_wp2
 go_end0
 refine⟨rfl,((Below.refl _ _).setCell (p:=⟨b,0,none⟩) (Nat.le_refl _) _).drew,?_,?_,?_⟩
 ·simp[J3,World.cell?_setCell_same _ _ _ hc]
 ·simpa using hf
 ·simp
set_option maxRecDepth 100000 in
set_option maxHeartbeats 400000 in
theorem acG(n v:Int)(b:Nat)(w:World)(h0:0≤n)(h1:n<1024)(h:aM w)(hc:w.cell? ⟨b,0,none⟩=some (.int .u32 v))(hf:w.frozen? ⟨b,0,none⟩=false):
  Calls Tryz.prog 240 #[.int .i64 3, .int .i64 n, .pointer (some ⟨b,0,none⟩)] w fun e w'=>e= .returned (.tuple #[])∧Below b w w'∧w'.cell? ⟨b,0,none⟩=some (.int .u32 (J3 v (n*256)))∧w'.frozen? ⟨b,0,none⟩=false∧w'.heap.size=w.heap.size:=by
 have H:=Lib.hid h
 clear h
 go_enter Tryz.func240,Tryz.ntmps240
 go_wp2
 refine wp_region_still_tail 5 (by kernel_rfl) (by kernel_rfl) ?_
 simp only[List.take_succ_cons,List.take_zero,List.drop_succ_cons,List.drop_zero]
 still_step
 still_step
 still_step
 still_call (aha _ _ h0 h1 (H.out.of_cells (fun _ _ _=>rfl)))
 still_step
 refine wpStill_nil ?_
 go_wp2
 go_end0
 refine⟨rfl,((Below.refl _ _).setCell (p:=⟨b,0,none⟩) (Nat.le_refl _) _).drew,?_,?_,?_⟩
 ·simp[J3,World.cell?_setCell_same _ _ _ hc]
 ·simpa using hf
 ·simp
structure EZ(W:World)(p w c:Bool)(f:Int)(b:Nat)(v:Int)(w1:World):Prop where
 below:Below W.heap.size W w1
 lt:W.heap.size<b
 c0:w1.cell? ⟨W.heap.size,0,none⟩=some (.bool p)
 c1:w1.cell? ⟨W.heap.size,1,none⟩=some (.bool w)
 c2:w1.cell? ⟨W.heap.size,2,none⟩=some (.bool c)
 c3:w1.cell? ⟨W.heap.size,3,none⟩=some (.int .i64 f)
 cap:w1.cell? ⟨b,0,none⟩=some (.int .u32 v)
 free:w1.frozen? ⟨b,0,none⟩=false
theorem EZ.step{W w1 w2:World}{p w c:Bool}{f v v':Int}{b:Nat}(h:EZ W p w c f b v w1)(hb:Below b w1 w2)(hc:w2.cell? ⟨b,0,none⟩=some (.int .u32 v'))(hf:w2.frozen? ⟨b,0,none⟩=false):EZ W p w c f b v' w2:=
 ⟨h.below.trans (hb.mono (Nat.le_of_lt h.lt)),h.lt,(hb.cell (p:=⟨W.heap.size,0,none⟩) h.lt).trans h.c0,(hb.cell (p:=⟨W.heap.size,1,none⟩) h.lt).trans h.c1,(hb.cell (p:=⟨W.heap.size,2,none⟩) h.lt).trans h.c2,(hb.cell (p:=⟨W.heap.size,3,none⟩) h.lt).trans h.c3,hc,hf⟩
theorem EZ.start{W w1:World}{p w c:Bool}{f:Int}{t t':TypeId}(hb:Below (W.alloc (.cells #[.bool p, .bool w, .bool c, .int .i64 f] t)).heap.size (W.alloc (.cells #[.bool p, .bool w, .bool c, .int .i64 f] t)) w1):
  EZ W p w c f w1.heap.size 0 (w1.alloc (.cells #[.int .u32 0] t')):=by
 have hlt:W.heap.size<w1.heap.size:=by have:=hb.size;simp at this;omega
 have e:∀i,(w1.alloc (.cells #[.int .u32 0] t')).cell? ⟨W.heap.size,i,none⟩=w1.cell? ⟨W.heap.size,i,none⟩:=fun i=>World.cell?_alloc_lt _ _ _ hlt
 refine⟨(((Below.refl _ _).alloc (Nat.le_refl _) _).trans (hb.mono (by simp))).alloc (by omega) _,hlt,?_,?_,?_,?_,?_,?_⟩
 ·rw[e,pQ hb];rfl
 ·rw[e,pQ hb];rfl
 ·rw[e,pQ hb];rfl
 ·rw[e,pQ hb];rfl
 ·simp
 ·exact World.frozen?_alloc_new ..
set_option maxRecDepth 100000 in
set_option maxHeartbeats 1000000 in
theorem acH(p w c:Bool)(f:Int)(W:World)(hok:nM p w c f=false):Calls Tryz.prog 229 #[ent p w c f] W fun e w'=>e= .returned (.tuple #[.int .u32 0, .int .i64 2])∧Below W.heap.size W w':=by
 have H:=Lib.hid hok
 clear hok
 go_enter Tryz.func229,Tryz.ntmps229
 go_wp2_with fail
 refine(JZ p w c f _ H.out).mono ?_
 rintro e w1 ⟨rfl,hb⟩
 have HB:=Lib.hid hb
 clear hb
 go_wp2
 go_ret2
 exact⟨rfl,((Below.refl _ _).alloc (Nat.le_refl _) _).trans (HB.out.mono (by simp))⟩
set_option maxRecDepth 100000 in
set_option maxHeartbeats 1000000 in
theorem Ii(p w c:Bool)(f:Int)(W:World)(hok:nM p w c f=true)(hL:aM W):Calls Tryz.prog 229 #[ent p w c f] W fun e w'=>e= .returned (.tuple #[.int .u32 (fu p w c f), .int .i64 0])∧Below W.heap.size W w':=by
 have f0:0≤f:=by simp[nM]at hok;omega
 have f1:f<1024:=by simp[nM]at hok;omega
 have hfin:=RP p w c f f0 f1
 have HF:=Lib.hid hfin
 have H:=Lib.hid hok
 have HL:=Lib.hid hL
 clear hok hL hfin
 go_enter Tryz.func229,Tryz.ntmps229
 go_wp2_with fail
 refine(EY p w c f _ H.out).mono ?_
 rintro e w1 ⟨rfl,hb⟩
 have S0:=Lib.hid (EZ.start (t':=25) hb)
 clear hb
 have k:=S0.out.c0
 go_wp2_with fail
 clear k
 refine(Ih _ _).mono ?_
 rintro e wx ⟨rfl,rfl⟩
 go_wp2_with fail
 refine(acD _ _ _ _ (jG _) (jH _) (HL.out.below S0.out.below) S0.out.cap S0.out.free).mono ?_
 rintro e w2 ⟨rfl,hb,hc,hf,_⟩
 have S1:=Lib.hid (S0.out.step hb hc hf)
 clear hb hc hf S0
 have k:=S1.out.c1
 go_wp2_with fail
 clear k
 refine(Ih _ _).mono ?_
 rintro e wx ⟨rfl,rfl⟩
 go_wp2_with fail
 refine(acE _ _ _ _ (jG _) (jH _) (HL.out.below S1.out.below) S1.out.cap S1.out.free).mono ?_
 rintro e w3 ⟨rfl,hb,hc,hf,_⟩
 have S2:=Lib.hid (S1.out.step hb hc hf)
 clear hb hc hf S1
 have k:=S2.out.c2
 go_wp2_with fail
 clear k
 refine(Ih _ _).mono ?_
 rintro e wx ⟨rfl,rfl⟩
 go_wp2_with fail
 refine(acF _ _ _ _ (jG _) (jH _) (HL.out.below S2.out.below) S2.out.cap S2.out.free).mono ?_
 rintro e w4 ⟨rfl,hb,hc,hf,_⟩
 have S3:=Lib.hid (S2.out.step hb hc hf)
 clear hb hc hf S2
 have k:=S3.out.c3
 go_wp2_with fail
 clear k
 refine(acG _ _ _ _ f0 f1 (HL.out.below S3.out.below) S3.out.cap S3.out.free).mono ?_
 rintro e w5 ⟨rfl,hb,hc,hf,_⟩
 have S4:=Lib.hid (S3.out.step hb hc hf)
 clear hb hc hf S3
 have k:=S4.out.cap
 rw[HF.out]at k
 go_wp2
 go_ret2
 exact⟨rfl,S4.out.below⟩
end Go.Proofs.YtammlljefhakmaaGreatDoor
