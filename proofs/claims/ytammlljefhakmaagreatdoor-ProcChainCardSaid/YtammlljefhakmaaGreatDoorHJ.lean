/- Helps of the proof. No condition. -/
import Derived.Test.YtammlljefhakmaaGreatDoorGA
import Derived.StillTailTactics
import Derived.Deep.RegionHeld3
namespace Go.Proofs.YtammlljefhakmaaGreatDoor
open Go.RowKit
set_option maxRecDepth 100000
section
def Qn(p w c:Bool)(f:Int):Bool:=nM p w c f&&p
structure mW(w:World)(b:Nat)(p x c:Bool)(f:Int):Prop where
 c0:w.cell? ⟨b,0,none⟩=some (.bool p)
 c1:w.cell? ⟨b,1,none⟩=some (.bool x)
 c2:w.cell? ⟨b,2,none⟩=some (.bool c)
 c3:w.cell? ⟨b,3,none⟩=some (.int .i64 f)
theorem mW.lt{w:World}{b:Nat}{p x c:Bool}{f:Int}(h:mW w b p x c f):b<w.heap.size:=oH (a:=⟨b,0,none⟩) h.c0
theorem mW.below{w w':World}{b:Nat}{p x c:Bool}{f:Int}(h:mW w b p x c f)(hb:Below w.heap.size w w'):mW w' b p x c f:=
 have k:=VO hb
 ⟨(k.1 b 0 h.lt).trans h.c0,(k.1 b 1 h.lt).trans h.c1,(k.1 b 2 h.lt).trans h.c2,(k.1 b 3 h.lt).trans h.c3⟩
theorem mW.alloc{w:World}{b:Nat}{p x c:Bool}{f:Int}(h:mW w b p x c f)(o:Obj):mW (w.alloc o) b p x c f:=h.below ((Below.refl _ _).alloc (Nat.le_refl _) _)
theorem mW.new(w:World)(p x c:Bool)(f:Int)(t:TypeId):mW (w.alloc (.cells #[.bool p, .bool x, .bool c, .int .i64 f] t)) w.heap.size p x c f:=
 ⟨World.cell?_alloc_new ..,World.cell?_alloc_new ..,World.cell?_alloc_new ..,World.cell?_alloc_new ..⟩
structure Da(w:World)(b:Nat):Prop where
 e:mW w b false false false 0
 f0:w.frozen? ⟨b,0,none⟩=false
 f1:w.frozen? ⟨b,1,none⟩=false
 f2:w.frozen? ⟨b,2,none⟩=false
 f3:w.frozen? ⟨b,3,none⟩=false
theorem Da.below{w w':World}{b:Nat}(h:Da w b)(hb:Below w.heap.size w w'):Da w' b:=
 have k:=VO hb
 ⟨h.e.below hb,(k.2 b 0 h.e.lt).trans h.f0,(k.2 b 1 h.e.lt).trans h.f1,(k.2 b 2 h.e.lt).trans h.f2,(k.2 b 3 h.e.lt).trans h.f3⟩
theorem Da.new(w:World)(t:TypeId):Da (w.alloc (.cells #[.bool false, .bool false, .bool false, .int .i64 0] t)) w.heap.size:=
 ⟨mW.new ..,World.frozen?_alloc_new ..,World.frozen?_alloc_new ..,World.frozen?_alloc_new ..,World.frozen?_alloc_new ..⟩
theorem nC{W w:World}{B b:Nat}(h:Below B W w)(hb:B≤b)(x y z u:Value):Below B W ((((w.setCell ⟨b,0,none⟩ x).setCell ⟨b,1,none⟩ y).setCell ⟨b,2,none⟩ z).setCell ⟨b,3,none⟩ u):=
 (((h.setCell (p:=⟨b,0,none⟩) hb _).setCell (p:=⟨b,1,none⟩) hb _).setCell (p:=⟨b,2,none⟩) hb _).setCell (p:=⟨b,3,none⟩) hb _
theorem cZ{B:Nat}{W w w':World}(h:Below B W w)(hb:Below w.heap.size w w')(hB:B≤w.heap.size):Below B W w':=h.trans (hb.mono hB)
set_option maxHeartbeats 1000000 in
theorem gM(p w c:Bool)(f:Int)(W:World):Calls Tryz.prog 208 #[ent p w c f] W fun e w'=>e= .returned (.bool (Qn p w c f))∧Below W.heap.size W w':=by
 unfold Qn
 cases hok:nM p w c f
 ·have H:=Lib.hid hok
  clear hok
  go_enter Tryz.func208,Tryz.ntmps208
  go_wp2_with fail
  refine(JZ p w c f _ H.out).mono ?_
  rintro e w1 ⟨rfl,hb⟩
  have HB:=Lib.hid hb
  clear hb
  go_wp2
  go_ret
  exact⟨rfl,((Below.refl _ _).alloc (Nat.le_refl _) _).trans (HB.out.mono (by simp))⟩
 ·have H:=Lib.hid hok
  clear hok
  go_enter Tryz.func208,Tryz.ntmps208
  go_wp2_with fail
  refine(EY p w c f _ H.out).mono ?_
  rintro e w1 ⟨rfl,hb⟩
  have k0:=(pQ hb 0).trans rfl
  have HB:=Lib.hid hb
  clear hb
  go_wp2
  go_ret
  exact⟨rfl,((Below.refl _ _).alloc (Nat.le_refl _) _).trans (HB.out.mono (by simp))⟩
theorem qU(f:Int)(W:World):Calls Tryz.prog 224 #[.int .i64 f] W fun e w'=>e= .returned (ent true false false f)∧Below W.heap.size W w':=by
 go_enter Tryz.func224,Tryz.ntmps224
 go_wp2
 exact bodyPost_ret (v:=ent true false false f) (by simp[results,Tryz.results224,go_sem]) rfl ⟨rfl,(Below.refl _ _).alloc (Nat.le_refl _) _⟩
theorem iR(f:Int)(W:World):Calls Tryz.prog 209 #[.int .i64 f] W fun e w'=>e= .returned (ent true true false f)∧Below W.heap.size W w':=by
 go_enter Tryz.func209,Tryz.ntmps209
 go_wp2
 exact bodyPost_ret (v:=ent true true false f) (by simp[results,Tryz.results209,go_sem]) rfl ⟨rfl,(Below.refl _ _).alloc (Nat.le_refl _) _⟩
theorem Db(f:Int)(W:World):Calls Tryz.prog 210 #[.int .i64 f] W fun e w'=>e= .returned (ent true false true f)∧Below W.heap.size W w':=by
 go_enter Tryz.func210,Tryz.ntmps210
 go_wp2
 exact bodyPost_ret (v:=ent true false true f) (by simp[results,Tryz.results210,go_sem]) rfl ⟨rfl,(Below.refl _ _).alloc (Nat.le_refl _) _⟩
end
section
theorem uN{W w1:World}{p x c:Bool}{f:Int}{t:TypeId}(hb:Below ((W.alloc (.cells #[.bool p, .bool x, .bool c, .int .i64 f] t)).alloc (.cells #[.bool false, .bool false, .bool false, .int .i64 0] t)).heap.size ((W.alloc (.cells #[.bool p, .bool x, .bool c, .int .i64 f] t)).alloc (.cells #[.bool false, .bool false, .bool false, .int .i64 0] t)) w1):
  mW w1 W.heap.size p x c f∧Da w1 (W.heap.size+1)∧Below W.heap.size W w1:=by
 have h1:=(mW.new W p x c f t).alloc (.cells #[.bool false, .bool false, .bool false, .int .i64 0] t)
 have h2:=Da.new (W.alloc (.cells #[.bool p, .bool x, .bool c, .int .i64 f] t)) t
 rw[World.size_alloc]at h2
 exact⟨h1.below hb,h2.below hb,(((Below.refl _ _).alloc (Nat.le_refl _) _).alloc (by simp) _).trans (hb.mono (by simp only[World.size_alloc];omega))⟩
theorem IW{W w1:World}{p x c:Bool}{f:Int}{t:TypeId}(hb:Below (W.alloc (.cells #[.bool p, .bool x, .bool c, .int .i64 f] t)).heap.size (W.alloc (.cells #[.bool p, .bool x, .bool c, .int .i64 f] t)) w1):
  mW w1 W.heap.size p x c f∧Below W.heap.size W w1:=
 ⟨(mW.new W p x c f t).below hb,((Below.refl _ _).alloc (Nat.le_refl _) _).trans (hb.mono (by simp))⟩
set_option maxHeartbeats 2000000 in
theorem Oe(f:Int)(W:World)(h:Qn true false false f=true):Calls Tryz.prog 159 #[ent true false false f] W fun e w'=>e= .returned (.tuple #[ent true false false f, .int .i64 0])∧Below W.heap.size W w':=by
 have H:=Lib.hid h
 clear h
 go_enter Tryz.func159,Tryz.ntmps159
 go_wp2_with fail
 refine(gM true false false f _).mono ?_
 rw[H.out]
 rintro e w1 ⟨rfl,hb⟩
 obtain⟨he,hr,hB⟩:=uN hb
 have HE:=Lib.hid he
 have HR:=Lib.hid hr
 have HB1:=Lib.hid hB
 have D:Hid (∀V,Below w1.heap.size w1 V→V.cell? ⟨W.heap.size,0,none⟩=some (.bool true)∧V.cell? ⟨W.heap.size,1,none⟩=some (.bool false)∧V.cell? ⟨W.heap.size,2,none⟩=some (.bool false)∧V.cell? ⟨W.heap.size,3,none⟩=some (.int .i64 f)):=
  Lib.hid fun V hV=>have k:=HE.out.below hV;⟨k.c0,k.c1,k.c2,k.c3⟩
 obtain⟨e0,e1,e2,e3⟩:=he
 clear hb hB hr
 go_wp2_with fail
 go_region_held3 (fun V=>V.cell? ⟨W.heap.size,0,none⟩=some (.bool true)∧V.cell? ⟨W.heap.size,1,none⟩=some (.bool false)∧V.cell? ⟨W.heap.size,2,none⟩=some (.bool false)∧V.cell? ⟨W.heap.size,3,none⟩=some (.int .i64 f)) (first|with_reducible exact D.out _ (Below.refl _ _).drew|with_reducible exact D.out w2 B2.out)
  (first
   |(go_at_call 209;refine(iR f _).mono ?_;rintro e w2 ⟨rfl,hb⟩;have B2:Hid (Below w1.heap.size w1 w2):=Lib.hid ((Below.refl _ _).drew.trans hb);clear hb))
 clear e0 e1 e2 e3
 obtain⟨e0,e1,e2,e3⟩:=D.out w2 B2.out
 have HB:=Lib.hid (cZ HB1.out B2.out HB1.out.size)
 obtain⟨⟨r0,r1,r2,r3⟩,f0,f1,f2,f3⟩:=HR.out.below B2.out
 go_wp2
 exact bodyPost_ret (v:= .tuple #[ent true false false f, .int .i64 0]) (by simp[results,Tryz.results159,go_sem,r0,r1,r2,r3]) rfl ⟨rfl,nC HB.out (by omega) _ _ _ _⟩
set_option maxHeartbeats 2000000 in
theorem Lv(f:Int)(W:World)(h:Qn true true false f=true):Calls Tryz.prog 159 #[ent true true false f] W fun e w'=>e= .returned (.tuple #[ent true false true f, .int .i64 0])∧Below W.heap.size W w':=by
 have H:=Lib.hid h
 clear h
 go_enter Tryz.func159,Tryz.ntmps159
 go_wp2_with fail
 refine(gM true true false f _).mono ?_
 rw[H.out]
 rintro e w1 ⟨rfl,hb⟩
 obtain⟨he,hr,hB⟩:=uN hb
 have HE:=Lib.hid he
 have HR:=Lib.hid hr
 have HB1:=Lib.hid hB
 have D:Hid (∀V,Below w1.heap.size w1 V→V.cell? ⟨W.heap.size,0,none⟩=some (.bool true)∧V.cell? ⟨W.heap.size,1,none⟩=some (.bool true)∧V.cell? ⟨W.heap.size,2,none⟩=some (.bool false)∧V.cell? ⟨W.heap.size,3,none⟩=some (.int .i64 f)):=
  Lib.hid fun V hV=>have k:=HE.out.below hV;⟨k.c0,k.c1,k.c2,k.c3⟩
 obtain⟨e0,e1,e2,e3⟩:=he
 clear hb hB hr
 go_wp2_with fail
 go_region_held3 (fun V=>V.cell? ⟨W.heap.size,0,none⟩=some (.bool true)∧V.cell? ⟨W.heap.size,1,none⟩=some (.bool true)∧V.cell? ⟨W.heap.size,2,none⟩=some (.bool false)∧V.cell? ⟨W.heap.size,3,none⟩=some (.int .i64 f)) (first|with_reducible exact D.out _ (Below.refl _ _).drew|with_reducible exact D.out w2 B2.out)
  (first
   |(go_at_call 209;refine(iR f _).mono ?_;rintro e w2 ⟨rfl,hb⟩;have B2:Hid (Below w1.heap.size w1 w2):=Lib.hid ((Below.refl _ _).drew.trans hb);clear hb))
 clear e0 e1 e2 e3
 obtain⟨e0,e1,e2,e3⟩:=D.out w2 B2.out
 go_wp2_with fail
 refine(Db f _).mono ?_
 rintro e w3 ⟨rfl,hb⟩
 have HB:=Lib.hid (cZ HB1.out (cZ B2.out hb B2.out.size) HB1.out.size)
 obtain⟨⟨r0,r1,r2,r3⟩,f0,f1,f2,f3⟩:=HR.out.below (cZ B2.out hb B2.out.size)
 clear hb
 go_wp2
 exact bodyPost_ret (v:= .tuple #[ent true false true f, .int .i64 0]) (by simp[results,Tryz.results159,go_sem,r0,r1,r2,r3]) rfl ⟨rfl,nC HB.out (by omega) _ _ _ _⟩
set_option maxHeartbeats 2000000 in
theorem Og(f:Int)(W:World)(h:Qn true false true f=true):Calls Tryz.prog 159 #[ent true false true f] W fun e w'=>e= .returned (.tuple #[ent true false true f, .int .i64 0])∧Below W.heap.size W w':=by
 have H:=Lib.hid h
 clear h
 go_enter Tryz.func159,Tryz.ntmps159
 go_wp2_with fail
 refine(gM true false true f _).mono ?_
 rw[H.out]
 rintro e w1 ⟨rfl,hb⟩
 obtain⟨he,hr,hB⟩:=uN hb
 have HE:=Lib.hid he
 have HR:=Lib.hid hr
 have HB1:=Lib.hid hB
 have D:Hid (∀V,Below w1.heap.size w1 V→V.cell? ⟨W.heap.size,0,none⟩=some (.bool true)∧V.cell? ⟨W.heap.size,1,none⟩=some (.bool false)∧V.cell? ⟨W.heap.size,2,none⟩=some (.bool true)∧V.cell? ⟨W.heap.size,3,none⟩=some (.int .i64 f)):=
  Lib.hid fun V hV=>have k:=HE.out.below hV;⟨k.c0,k.c1,k.c2,k.c3⟩
 obtain⟨e0,e1,e2,e3⟩:=he
 clear hb hB hr
 go_wp2_with fail
 go_region_held3 (fun V=>V.cell? ⟨W.heap.size,0,none⟩=some (.bool true)∧V.cell? ⟨W.heap.size,1,none⟩=some (.bool false)∧V.cell? ⟨W.heap.size,2,none⟩=some (.bool true)∧V.cell? ⟨W.heap.size,3,none⟩=some (.int .i64 f)) (first|with_reducible exact D.out _ (Below.refl _ _).drew|with_reducible exact D.out w2 B2.out)
  (first
   |(go_at_call 209;refine(iR f _).mono ?_;rintro e w2 ⟨rfl,hb⟩;have B2:Hid (Below w1.heap.size w1 w2):=Lib.hid ((Below.refl _ _).drew.trans hb);clear hb))
 clear e0 e1 e2 e3
 obtain⟨e0,e1,e2,e3⟩:=D.out w2 B2.out
 have HB:=Lib.hid (cZ HB1.out B2.out HB1.out.size)
 obtain⟨⟨r0,r1,r2,r3⟩,f0,f1,f2,f3⟩:=HR.out.below B2.out
 go_wp2
 exact bodyPost_ret (v:= .tuple #[ent true false true f, .int .i64 0]) (by simp[results,Tryz.results159,go_sem,r0,r1,r2,r3]) rfl ⟨rfl,nC HB.out (by omega) _ _ _ _⟩
set_option maxHeartbeats 2000000 in
theorem IX(f:Int)(n:Int)(W:World)(h:Qn true true false f=true)(hn:1≤n):Calls Tryz.prog 188 #[ent true true false f, .int .i64 n] W fun e w'=>e= .returned (.tuple #[.int .i64 1, .int .i64 0])∧Below W.heap.size W w':=by
 have H:=Lib.hid h
 clear h
 go_enter Tryz.func188,Tryz.ntmps188
 go_wp2_with fail
 refine(gM true true false f _).mono ?_
 rw[H.out]
 rintro e w1 ⟨rfl,hb⟩
 obtain⟨he,hB⟩:=IW hb
 have HE:=Lib.hid he
 have HB1:=Lib.hid hB
 have D:Hid (∀V,Below w1.heap.size w1 V→V.cell? ⟨W.heap.size,0,none⟩=some (.bool true)∧V.cell? ⟨W.heap.size,1,none⟩=some (.bool true)∧V.cell? ⟨W.heap.size,2,none⟩=some (.bool false)∧V.cell? ⟨W.heap.size,3,none⟩=some (.int .i64 f)):=
  Lib.hid fun V hV=>have k:=HE.out.below hV;⟨k.c0,k.c1,k.c2,k.c3⟩
 obtain⟨e0,e1,e2,e3⟩:=he
 clear hb hB
 go_wp2_with fail
 go_region_held3 (fun V=>V.cell? ⟨W.heap.size,0,none⟩=some (.bool true)∧V.cell? ⟨W.heap.size,1,none⟩=some (.bool true)∧V.cell? ⟨W.heap.size,2,none⟩=some (.bool false)∧V.cell? ⟨W.heap.size,3,none⟩=some (.int .i64 f)) (first|with_reducible exact D.out _ (Below.refl _ _).drew|with_reducible exact D.out w2 B2.out)
  (first
   |(go_at_call 224;refine(qU f _).mono ?_;rintro e w2 ⟨rfl,hb⟩;have B2:Hid (Below w1.heap.size w1 w2):=Lib.hid ((Below.refl _ _).drew.trans hb);clear hb))
 clear e0 e1 e2 e3
 obtain⟨e0,e1,e2,e3⟩:=D.out w2 B2.out
 go_wp2_with fail
 go_region_held3 (fun V=>V.cell? ⟨W.heap.size,0,none⟩=some (.bool true)∧V.cell? ⟨W.heap.size,1,none⟩=some (.bool true)∧V.cell? ⟨W.heap.size,2,none⟩=some (.bool false)∧V.cell? ⟨W.heap.size,3,none⟩=some (.int .i64 f)) (first|with_reducible exact D.out _ B2.out.drew|with_reducible exact D.out w3 B3.out)
  (first
   |(go_at_call 209;refine(iR f _).mono ?_;rintro e w3 ⟨rfl,hb⟩;have B3:Hid (Below w1.heap.size w1 w3):=Lib.hid (cZ B2.out.drew hb B2.out.size);clear hb))
 have HB:=Lib.hid (cZ HB1.out B3.out HB1.out.size)
 go_wp2
 go_ret2
 exact⟨rfl,HB.out⟩
set_option maxHeartbeats 2000000 in
theorem Oh(f:Int)(W:World)(h:Qn true false true f=true):Calls Tryz.prog 188 #[ent true false true f, .int .i64 1] W fun e w'=>e= .returned (.tuple #[.int .i64 2, .int .i64 0])∧Below W.heap.size W w':=by
 have H:=Lib.hid h
 clear h
 go_enter Tryz.func188,Tryz.ntmps188
 go_wp2_with fail
 refine(gM true false true f _).mono ?_
 rw[H.out]
 rintro e w1 ⟨rfl,hb⟩
 obtain⟨he,hB⟩:=IW hb
 have HE:=Lib.hid he
 have HB1:=Lib.hid hB
 have D:Hid (∀V,Below w1.heap.size w1 V→V.cell? ⟨W.heap.size,0,none⟩=some (.bool true)∧V.cell? ⟨W.heap.size,1,none⟩=some (.bool false)∧V.cell? ⟨W.heap.size,2,none⟩=some (.bool true)∧V.cell? ⟨W.heap.size,3,none⟩=some (.int .i64 f)):=
  Lib.hid fun V hV=>have k:=HE.out.below hV;⟨k.c0,k.c1,k.c2,k.c3⟩
 obtain⟨e0,e1,e2,e3⟩:=he
 clear hb hB
 go_wp2_with fail
 go_region_held3 (fun V=>V.cell? ⟨W.heap.size,0,none⟩=some (.bool true)∧V.cell? ⟨W.heap.size,1,none⟩=some (.bool false)∧V.cell? ⟨W.heap.size,2,none⟩=some (.bool true)∧V.cell? ⟨W.heap.size,3,none⟩=some (.int .i64 f)) (first|with_reducible exact D.out _ (Below.refl _ _).drew|with_reducible exact D.out w2 B2.out)
  (first
   |(go_at_call 224;refine(qU f _).mono ?_;rintro e w2 ⟨rfl,hb⟩;have B2:Hid (Below w1.heap.size w1 w2):=Lib.hid ((Below.refl _ _).drew.trans hb);clear hb))
 clear e0 e1 e2 e3
 obtain⟨e0,e1,e2,e3⟩:=D.out w2 B2.out
 go_wp2_with fail
 go_region_held3 (fun V=>V.cell? ⟨W.heap.size,0,none⟩=some (.bool true)∧V.cell? ⟨W.heap.size,1,none⟩=some (.bool false)∧V.cell? ⟨W.heap.size,2,none⟩=some (.bool true)∧V.cell? ⟨W.heap.size,3,none⟩=some (.int .i64 f)) (first|with_reducible exact D.out _ B2.out.drew|with_reducible exact D.out w3 B3.out)
  (first
   |(go_at_call 209;refine(iR f _).mono ?_;rintro e w3 ⟨rfl,hb⟩;have B3:Hid (Below w1.heap.size w1 w3):=Lib.hid (cZ B2.out.drew hb B2.out.size);clear hb))
 have HB:=Lib.hid (cZ HB1.out B3.out HB1.out.size)
 go_wp2
 go_ret2
 exact⟨rfl,HB.out⟩
set_option maxHeartbeats 2000000 in
theorem Lx(f:Int)(n:Int)(W:World)(h:Qn true false true f=true)(hn:1<n):Calls Tryz.prog 188 #[ent true false true f, .int .i64 n] W fun e w'=>e= .returned (.tuple #[.int .i64 3, .int .i64 0])∧Below W.heap.size W w':=by
 have H:=Lib.hid h
 clear h
 have hn1:¬n<1:=by omega
 have hn2:¬n=1:=by omega
 have hn3:(n==1)=false:=by simpa using hn2
 go_enter Tryz.func188,Tryz.ntmps188
 go_wp2_with fail
 refine(gM true false true f _).mono ?_
 rw[H.out]
 rintro e w1 ⟨rfl,hb⟩
 obtain⟨he,hB⟩:=IW hb
 have HE:=Lib.hid he
 have HB1:=Lib.hid hB
 have D:Hid (∀V,Below w1.heap.size w1 V→V.cell? ⟨W.heap.size,0,none⟩=some (.bool true)∧V.cell? ⟨W.heap.size,1,none⟩=some (.bool false)∧V.cell? ⟨W.heap.size,2,none⟩=some (.bool true)∧V.cell? ⟨W.heap.size,3,none⟩=some (.int .i64 f)):=
  Lib.hid fun V hV=>have k:=HE.out.below hV;⟨k.c0,k.c1,k.c2,k.c3⟩
 obtain⟨e0,e1,e2,e3⟩:=he
 clear hb hB
 go_wp2_with fail
 go_region_held3 (fun V=>V.cell? ⟨W.heap.size,0,none⟩=some (.bool true)∧V.cell? ⟨W.heap.size,1,none⟩=some (.bool false)∧V.cell? ⟨W.heap.size,2,none⟩=some (.bool true)∧V.cell? ⟨W.heap.size,3,none⟩=some (.int .i64 f)) (first|with_reducible exact D.out _ (Below.refl _ _).drew|with_reducible exact D.out w2 B2.out)
  (first
   |(go_at_call 224;refine(qU f _).mono ?_;rintro e w2 ⟨rfl,hb⟩;have B2:Hid (Below w1.heap.size w1 w2):=Lib.hid ((Below.refl _ _).drew.trans hb);clear hb))
 clear e0 e1 e2 e3
 obtain⟨e0,e1,e2,e3⟩:=D.out w2 B2.out
 go_wp2_with fail
 go_region_held3 (fun V=>V.cell? ⟨W.heap.size,0,none⟩=some (.bool true)∧V.cell? ⟨W.heap.size,1,none⟩=some (.bool false)∧V.cell? ⟨W.heap.size,2,none⟩=some (.bool true)∧V.cell? ⟨W.heap.size,3,none⟩=some (.int .i64 f)) (first|with_reducible exact D.out _ B2.out.drew|with_reducible exact D.out w3 B3.out)
  (first
   |(go_at_call 209;refine(iR f _).mono ?_;rintro e w3 ⟨rfl,hb⟩;have B3:Hid (Below w1.heap.size w1 w3):=Lib.hid (cZ B2.out.drew hb B2.out.size);clear hb))
 have HB:=Lib.hid (cZ HB1.out B3.out HB1.out.size)
 go_wp2
 go_ret2
 exact⟨rfl,HB.out⟩
set_option maxHeartbeats 1000000 in
theorem Tq(w c:Bool)(f:Int)(n:Int)(W:World)(h:Qn true w c f=true)(hn:1≤n):Calls Tryz.prog 223 #[ent true w c f, .int .i64 n, .bool false] W fun e w'=>e= .returned (.tuple #[ent true false false f, .int .i64 0])∧Below W.heap.size W w':=by
 have H:=Lib.hid h
 clear h
 go_enter Tryz.func223,Tryz.ntmps223
 go_wp2_with fail
 refine(gM true w c f _).mono ?_
 rw[H.out]
 rintro e w1 ⟨rfl,hb⟩
 obtain⟨⟨e0,e1,e2,e3⟩,hr,hB⟩:=uN hb
 have HR:=Lib.hid hr
 have HB1:=Lib.hid hB
 clear hb hr hB
 go_wp2_with fail
 refine(qU f _).mono ?_
 rintro e w2 ⟨rfl,hb⟩
 have HB:=Lib.hid (cZ HB1.out hb HB1.out.size)
 obtain⟨⟨r0,r1,r2,r3⟩,f0,f1,f2,f3⟩:=HR.out.below hb
 clear hb
 go_wp2
 exact bodyPost_ret (v:= .tuple #[ent true false false f, .int .i64 0]) (by simp[results,Tryz.results223,go_sem,r0,r1,r2,r3]) rfl ⟨rfl,nC HB.out (by omega) _ _ _ _⟩
set_option maxHeartbeats 1000000 in
theorem Oi(w c:Bool)(f:Int)(W:World)(h:Qn true w c f=true):Calls Tryz.prog 223 #[ent true w c f, .int .i64 1, .bool true] W fun e w'=>e= .returned (.tuple #[ent true true false f, .int .i64 0])∧Below W.heap.size W w':=by
 have H:=Lib.hid h
 clear h
 go_enter Tryz.func223,Tryz.ntmps223
 go_wp2_with fail
 refine(gM true w c f _).mono ?_
 rw[H.out]
 rintro e w1 ⟨rfl,hb⟩
 obtain⟨⟨e0,e1,e2,e3⟩,hr,hB⟩:=uN hb
 have HR:=Lib.hid hr
 have HB1:=Lib.hid hB
 clear hb hr hB
 go_wp2_with fail
 refine(iR f _).mono ?_
 rintro e w2 ⟨rfl,hb⟩
 have HB:=Lib.hid (cZ HB1.out hb HB1.out.size)
 obtain⟨⟨r0,r1,r2,r3⟩,f0,f1,f2,f3⟩:=HR.out.below hb
 clear hb
 go_wp2
 exact bodyPost_ret (v:= .tuple #[ent true true false f, .int .i64 0]) (by simp[results,Tryz.results223,go_sem,r0,r1,r2,r3]) rfl ⟨rfl,nC HB.out (by omega) _ _ _ _⟩
set_option maxHeartbeats 1000000 in
theorem Tt(w c:Bool)(f:Int)(n:Int)(W:World)(h:Qn true w c f=true)(hn:1<n):Calls Tryz.prog 223 #[ent true w c f, .int .i64 n, .bool true] W fun e w'=>e= .returned (.tuple #[ent true false true f, .int .i64 0])∧Below W.heap.size W w':=by
 have H:=Lib.hid h
 clear h
 have hn1:¬n<1:=by omega
 have hn3:(n==1)=false:=by simp;omega
 go_enter Tryz.func223,Tryz.ntmps223
 go_wp2_with fail
 refine(gM true w c f _).mono ?_
 rw[H.out]
 rintro e w1 ⟨rfl,hb⟩
 obtain⟨⟨e0,e1,e2,e3⟩,hr,hB⟩:=uN hb
 have HR:=Lib.hid hr
 have HB1:=Lib.hid hB
 clear hb hr hB
 go_wp2_with fail
 refine(Db f _).mono ?_
 rintro e w2 ⟨rfl,hb⟩
 have HB:=Lib.hid (cZ HB1.out hb HB1.out.size)
 obtain⟨⟨r0,r1,r2,r3⟩,f0,f1,f2,f3⟩:=HR.out.below hb
 clear hb
 go_wp2
 exact bodyPost_ret (v:= .tuple #[ent true false true f, .int .i64 0]) (by simp[results,Tryz.results223,go_sem,r0,r1,r2,r3]) rfl ⟨rfl,nC HB.out (by omega) _ _ _ _⟩
end
end Go.Proofs.YtammlljefhakmaaGreatDoor
