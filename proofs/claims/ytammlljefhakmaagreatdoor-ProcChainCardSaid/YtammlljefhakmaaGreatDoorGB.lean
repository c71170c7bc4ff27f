/- Helps of the proof. No condition. -/
import Derived.Test.YtammlljefhakmaaGreatDoorGA4
import Derived.Test.YtammlljefhakmaaGreatDoorGA5
import Derived.Deep.RegionWith
import Derived.Deep.RegionHeld3
namespace Go.Proofs.YtammlljefhakmaaGreatDoor
open Go.RowKit
set_option maxRecDepth 100000
section
theorem Ij{W w5:World}{c1 c2:Array Value}{t1 t2:TypeId}{N:Nat}(hb:Below (((W.alloc (.cells c1 t1)).drewN N).alloc (.cells c2 t2)).heap.size (((W.alloc (.cells c1 t1)).drewN N).alloc (.cells c2 t2)) w5):
  (∀i,w5.cell? ⟨W.heap.size+1,i,none⟩=c2[i]?)∧(∀i,w5.cell? ⟨W.heap.size,i,none⟩=c1[i]?)∧(∀i,w5.frozen? ⟨W.heap.size,i,none⟩=false)∧Below W.heap.size W w5:=by
 have hs:((W.alloc (.cells c1 t1)).drewN N).heap.size=W.heap.size+1:=by show(W.alloc (.cells c1 t1)).heap.size= _;simp
 have hlt:∀i,(⟨W.heap.size,i,none⟩:Addr).block<((W.alloc (.cells c1 t1)).drewN N).heap.size:=fun _=>by rw[hs];show W.heap.size<W.heap.size+1;omega
 refine⟨fun i=>?_,fun i=>?_,fun i=>?_,?_⟩
 ·have:=pQ hb i
  rwa [hs]at this
 ·refine(hb.cell (p:=⟨W.heap.size,i,none⟩) (by simp only[World.size_alloc];rw[hs];omega)).trans ((World.cell?_alloc_lt _ _ _ (hlt i)).trans ?_)
  show(W.alloc (.cells c1 t1)).cell? ⟨W.heap.size,i,none⟩= _
  exact World.cell?_alloc_new ..
 ·refine(hb.frozen (p:=⟨W.heap.size,i,none⟩) (by simp only[World.size_alloc];rw[hs];omega)).trans ((World.frozen?_alloc_old _ _ _ (Nat.ne_of_lt (hlt i))).trans ?_)
  show(W.alloc (.cells c1 t1)).frozen? ⟨W.heap.size,i,none⟩= _
  exact World.frozen?_alloc_new ..
 ·have h1:Below W.heap.size W ((W.alloc (.cells c1 t1)).drewN N):=((Below.refl _ _).alloc (Nat.le_refl _) _).trans ⟨rfl,rfl,rfl,Nat.le_refl _,fun _ _=>rfl⟩
  exact(h1.alloc (by rw[hs];omega) _).trans (hb.mono (by simp only[World.size_alloc];rw[hs];omega))
theorem qG(b:Bool):(bit b !=0)=b:=by cases b<;>rfl
theorem nN{W w:World}(h:Below W.heap.size W w)(a b c d:Value):Below W.heap.size W ((((w.setCell ⟨W.heap.size,0,none⟩ a).setCell ⟨W.heap.size,1,none⟩ b).setCell ⟨W.heap.size,2,none⟩ c).setCell ⟨W.heap.size,3,none⟩ d):=
 (((h.setCell (p:=⟨W.heap.size,0,none⟩) (Nat.le_refl _) _).setCell (p:=⟨W.heap.size,1,none⟩) (Nat.le_refl _) _).setCell (p:=⟨W.heap.size,2,none⟩) (Nat.le_refl _) _).setCell (p:=⟨W.heap.size,3,none⟩) (Nat.le_refl _) _
set_option maxRecDepth 100000 in
set_option maxHeartbeats 2000000 in
theorem ZH(a:Int)(p w c:Bool)(f:Int)(W:World)(h0:0≤a)(h1:a<4294967296)(hp:a/1%2=bit p)(hw:a/2%2=bit w)(hc:a/4%2=bit c)(hf:a/256%1024=f)(hok:nM p w c f=true)(heq:fu p w c f=a)(hL:aM W):
  Calls Tryz.prog 239 #[.int .u32 a] W fun e w'=>e= .returned (.tuple #[ent p w c f, .int .i64 0])∧Below W.heap.size W w':=by
 have HL:=Lib.hid hL
 have T0:Hid (∀w',aM w'→_):=Lib.hid (fun w' h=>hp▸Nl a w' h0 h1 h)
 have T1:Hid (∀w',aM w'→_):=Lib.hid (fun w' h=>hw▸Nn a w' h0 h1 h)
 have T2:Hid (∀w',aM w'→_):=Lib.hid (fun w' h=>hc▸Np a w' h0 h1 h)
 have T3:Hid (∀w',aM w'→_):=Lib.hid (fun w' h=>hf▸Nq a w' h0 h1 h)
 clear hp hw hc hf hL
 have q0:=qG p
 have q1:=qG w
 have q2:=qG c
 have L1:∀o n,aM ((W.alloc o).drewN n):=fun o n=>HL.out.of_cells (fun b i hb=>(World.cell?_alloc_lt W o ⟨b,i,none⟩ hb))
 have J6:=Lib.hid L1
 clear L1
 have L2:∀o n o2,aM (((W.alloc o).drewN n).alloc o2):=fun o n o2=>(J6.out o n).of_cells (fun b i hb=>(World.cell?_alloc_lt _ o2 ⟨b,i,none⟩ hb))
 have HL2:=Lib.hid L2
 clear L2
 have py:∀W',aM W'→Calls Tryz.prog 229 #[ent p w c f] W' fun e w'=>e= .returned (.tuple #[.int .u32 a, .int .i64 0])∧Below W'.heap.size W' w':=fun W' h=>heq▸Ii p w c f W' hok h
 have PY:=Lib.hid py
 clear py
 clear hok heq
 go_enter Tryz.func239,Tryz.ntmps239
 go_wp2_with fail
 refine(T0.out _ (by exact J6.out _ 0)).mono ?_
 rintro e wx ⟨rfl,n1,rfl⟩
 go_wp2_with fail
 refine(T1.out _ (by exact J6.out _ _)).mono ?_
 rintro e wx ⟨rfl,n2,rfl⟩
 go_wp2_with fail
 refine(T2.out _ (by exact J6.out _ _)).mono ?_
 rintro e wx ⟨rfl,n3,rfl⟩
 go_wp2_with fail
 refine(T3.out _ (by exact J6.out _ _)).mono ?_
 rintro e wx ⟨rfl,n4,rfl⟩
 go_wp2_with fail
 refine(PY.out _ (by exact HL2.out _ _ _)).mono ?_
 rintro e w5 ⟨rfl,hb⟩
 obtain⟨ke,kr,kf,hB⟩:=Ij hb
 have e0:=(ke 0).trans rfl
 have e1:=(ke 1).trans rfl
 have e2:=(ke 2).trans rfl
 have e3:=(ke 3).trans rfl
 have r0:=(kr 0).trans rfl
 have r1:=(kr 1).trans rfl
 have r2:=(kr 2).trans rfl
 have r3:=(kr 3).trans rfl
 have f0:=kf 0
 have f1:=kf 1
 have f2:=kf 2
 have f3:=kf 3
 have HB:=Lib.hid hB
 clear hb ke kr kf hB
 go_wp2
 exact bodyPost_ret (v:= .tuple #[ent p w c f, .int .i64 0]) (by simp[results,Tryz.results239,go_sem,r0,r1,r2,r3]) rfl ⟨rfl,nN HB.out _ _ _ _⟩
set_option maxRecDepth 100000 in
set_option maxHeartbeats 2000000 in
theorem acI(a:Int)(p w c:Bool)(f:Int)(W:World)(h0:0≤a)(h1:a<4294967296)(hp:a/1%2=bit p)(hw:a/2%2=bit w)(hc:a/4%2=bit c)(hf:a/256%1024=f)(hok:nM p w c f=true)(hne:(fu p w c f !=a)=true)(hL:aM W):
  Calls Tryz.prog 239 #[.int .u32 a] W fun e w'=>e= .returned (.tuple #[ent false false false 0, .int .i64 6])∧Below W.heap.size W w':=by
 have HL:=Lib.hid hL
 have T0:Hid (∀w',aM w'→_):=Lib.hid (fun w' h=>hp▸Nl a w' h0 h1 h)
 have T1:Hid (∀w',aM w'→_):=Lib.hid (fun w' h=>hw▸Nn a w' h0 h1 h)
 have T2:Hid (∀w',aM w'→_):=Lib.hid (fun w' h=>hc▸Np a w' h0 h1 h)
 have T3:Hid (∀w',aM w'→_):=Lib.hid (fun w' h=>hf▸Nq a w' h0 h1 h)
 clear hp hw hc hf hL
 have q0:=qG p
 have q1:=qG w
 have q2:=qG c
 have L1:∀o n,aM ((W.alloc o).drewN n):=fun o n=>HL.out.of_cells (fun b i hb=>(World.cell?_alloc_lt W o ⟨b,i,none⟩ hb))
 have J6:=Lib.hid L1
 clear L1
 have L2:∀o n o2,aM (((W.alloc o).drewN n).alloc o2):=fun o n o2=>(J6.out o n).of_cells (fun b i hb=>(World.cell?_alloc_lt _ o2 ⟨b,i,none⟩ hb))
 have HL2:=Lib.hid L2
 clear L2
 have py:∀W',aM W'→Calls Tryz.prog 229 #[ent p w c f] W' fun e w'=>e= .returned (.tuple #[.int .u32 (fu p w c f), .int .i64 0])∧Below W'.heap.size W' w':=fun W' h=>Ii p w c f W' hok h
 have PY:=Lib.hid py
 clear py
 clear hok
 go_enter Tryz.func239,Tryz.ntmps239
 go_wp2_with fail
 refine(T0.out _ (by exact J6.out _ 0)).mono ?_
 rintro e wx ⟨rfl,n1,rfl⟩
 go_wp2_with fail
 refine(T1.out _ (by exact J6.out _ _)).mono ?_
 rintro e wx ⟨rfl,n2,rfl⟩
 go_wp2_with fail
 refine(T2.out _ (by exact J6.out _ _)).mono ?_
 rintro e wx ⟨rfl,n3,rfl⟩
 go_wp2_with fail
 refine(T3.out _ (by exact J6.out _ _)).mono ?_
 rintro e wx ⟨rfl,n4,rfl⟩
 go_wp2_with fail
 refine(PY.out _ (by exact HL2.out _ _ _)).mono ?_
 rintro e w5 ⟨rfl,hb⟩
 obtain⟨ke,kr,kf,hB⟩:=Ij hb
 have e0:=(ke 0).trans rfl
 have e1:=(ke 1).trans rfl
 have e2:=(ke 2).trans rfl
 have e3:=(ke 3).trans rfl
 have r0:=(kr 0).trans rfl
 have r1:=(kr 1).trans rfl
 have r2:=(kr 2).trans rfl
 have r3:=(kr 3).trans rfl
 have f0:=kf 0
 have f1:=kf 1
 have f2:=kf 2
 have f3:=kf 3
 have HB:=Lib.hid hB
 clear hb ke kr kf hB
 go_wp2
 exact bodyPost_ret (v:= .tuple #[ent false false false 0, .int .i64 6]) (by simp[results,Tryz.results239,go_sem,r0,r1,r2,r3]) rfl ⟨rfl,nN HB.out _ _ _ _⟩
set_option maxRecDepth 100000 in
set_option maxHeartbeats 2000000 in
theorem acJ(a:Int)(p w c:Bool)(f:Int)(W:World)(h0:0≤a)(h1:a<4294967296)(hp:a/1%2=bit p)(hw:a/2%2=bit w)(hc:a/4%2=bit c)(hf:a/256%1024=f)(hok:nM p w c f=false)(hL:aM W):
  Calls Tryz.prog 239 #[.int .u32 a] W fun e w'=>e= .returned (.tuple #[ent false false false 0, .int .i64 6])∧Below W.heap.size W w':=by
 have HL:=Lib.hid hL
 have T0:Hid (∀w',aM w'→_):=Lib.hid (fun w' h=>hp▸Nl a w' h0 h1 h)
 have T1:Hid (∀w',aM w'→_):=Lib.hid (fun w' h=>hw▸Nn a w' h0 h1 h)
 have T2:Hid (∀w',aM w'→_):=Lib.hid (fun w' h=>hc▸Np a w' h0 h1 h)
 have T3:Hid (∀w',aM w'→_):=Lib.hid (fun w' h=>hf▸Nq a w' h0 h1 h)
 clear hp hw hc hf hL
 have q0:=qG p
 have q1:=qG w
 have q2:=qG c
 have L1:∀o n,aM ((W.alloc o).drewN n):=fun o n=>HL.out.of_cells (fun b i hb=>(World.cell?_alloc_lt W o ⟨b,i,none⟩ hb))
 have J6:=Lib.hid L1
 clear L1
 have L2:∀o n o2,aM (((W.alloc o).drewN n).alloc o2):=fun o n o2=>(J6.out o n).of_cells (fun b i hb=>(World.cell?_alloc_lt _ o2 ⟨b,i,none⟩ hb))
 have HL2:=Lib.hid L2
 clear L2
 have py:∀W',aM W'→Calls Tryz.prog 229 #[ent p w c f] W' fun e w'=>e= .returned (.tuple #[.int .u32 0, .int .i64 2])∧Below W'.heap.size W' w':=fun W' _=>acH p w c f W' hok
 have PY:=Lib.hid py
 clear py
 clear hok
 go_enter Tryz.func239,Tryz.ntmps239
 go_wp2_with fail
 refine(T0.out _ (by exact J6.out _ 0)).mono ?_
 rintro e wx ⟨rfl,n1,rfl⟩
 go_wp2_with fail
 refine(T1.out _ (by exact J6.out _ _)).mono ?_
 rintro e wx ⟨rfl,n2,rfl⟩
 go_wp2_with fail
 refine(T2.out _ (by exact J6.out _ _)).mono ?_
 rintro e wx ⟨rfl,n3,rfl⟩
 go_wp2_with fail
 refine(T3.out _ (by exact J6.out _ _)).mono ?_
 rintro e wx ⟨rfl,n4,rfl⟩
 go_wp2_with fail
 refine(PY.out _ (by exact HL2.out _ _ _)).mono ?_
 rintro e w5 ⟨rfl,hb⟩
 obtain⟨ke,kr,kf,hB⟩:=Ij hb
 have e0:=(ke 0).trans rfl
 have e1:=(ke 1).trans rfl
 have e2:=(ke 2).trans rfl
 have e3:=(ke 3).trans rfl
 have r0:=(kr 0).trans rfl
 have r1:=(kr 1).trans rfl
 have r2:=(kr 2).trans rfl
 have r3:=(kr 3).trans rfl
 have f0:=kf 0
 have f1:=kf 1
 have f2:=kf 2
 have f3:=kf 3
 have HB:=Lib.hid hB
 clear hb ke kr kf hB
 go_wp2
 exact bodyPost_ret (v:= .tuple #[ent false false false 0, .int .i64 6]) (by simp[results,Tryz.results239,go_sem,r0,r1,r2,r3]) rfl ⟨rfl,nN HB.out _ _ _ _⟩
end
section
end
section
end
section
end
section
theorem ZI(a:Int)(p w c:Bool)(f:Int)(W:World)(h0:0≤a)(h1:a<4294967296)(hp:a/1%2=bit p)(hw:a/2%2=bit w)(hc:a/4%2=bit c)(hf:a/256%1024=f)(hbad:¬(nM p w c f=true∧fu p w c f=a))(hL:aM W):
  Calls Tryz.prog 239 #[.int .u32 a] W fun e w'=>e= .returned (.tuple #[ent false false false 0, .int .i64 6])∧Below W.heap.size W w':=by
 by_cases hok:nM p w c f=true
 ·exact acI a p w c f W h0 h1 hp hw hc hf hok (by rw[bne_iff_ne];exact fun h=>hbad ⟨hok,h⟩) hL
 ·exact acJ a p w c f W h0 h1 hp hw hc hf (by simpa using hok) hL
end
end Go.Proofs.YtammlljefhakmaaGreatDoor
