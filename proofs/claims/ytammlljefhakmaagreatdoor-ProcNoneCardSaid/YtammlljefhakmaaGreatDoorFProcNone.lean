/- The law ProcNone returns true for every input, and its arguments read behind the call as they read before. Conditions: none beyond the row's own: the masks and the library's two tables start as the text lays them, which the card ties. -/
import Derived.Test.YtammlljefhakmaaGreatDoorJ41
import Derived.Test.YtammlljefhakmaaGreatDoorJ42
import Derived.Test.YtammlljefhakmaaGreatDoorOP
import Derived.Test.YtammlljefhakmaaGreatDoorTie
import Derived.Test.YtammlljefhakmaaGreatDoorCards
import Derived.SevenTiedAt
namespace Go.Proofs.YtammlljefhakmaaGreatDoor
open Go.RowKit Go.Maps
set_option maxRecDepth 100000
theorem YM:OkQ 70 [(0,64)]:=by
 refine⟨by simp,fun i hi=>?_⟩
 have hi:i<1:=hi
 obtain rfl:i=0:=by omega
 exact⟨(uy _ _ _).2 (by simp[List.getD_eq_getElem?_getD]),fun j hj=>by simp[xZ]at hj⟩
theorem YN{q sl:Int}{y:Option Addr}{er:Int}(h:(Ji q sl=true∧er=0∧∃b,y=some ⟨b,0,none⟩)∨(Ji q sl=false∧er=2∧y=none)):
  (decide (1≤q)=true∧decide (q≤64)=true∧decide (1≤sl)=true∧decide (sl≤8)=true∧er=0∧∃b,y=some ⟨b,0,none⟩)∨(er=2∧y=none∧(decide (1≤q)=false∨decide (1≤q)=true∧(decide (q≤64)=false∨decide (q≤64)=true∧(decide (1≤sl)=false∨decide (1≤sl)=true∧decide (sl≤8)=false)))):=by
 rcases h with⟨hm,he,hy⟩|⟨hm,he,hy⟩
 ·obtain⟨⟨h1,h2⟩,h3,h4⟩:=xH.1 hm
  exact Or.inl ⟨decide_eq_true h1,decide_eq_true h2,decide_eq_true h3,decide_eq_true h4,he,hy⟩
 ·refine Or.inr ⟨he,hy,?_⟩
  by_cases h1:1≤q
  ·refine Or.inr ⟨decide_eq_true h1,?_⟩
   by_cases h2:q≤64
   ·refine Or.inr ⟨decide_eq_true h2,?_⟩
    by_cases h3:1≤sl
    ·refine Or.inr ⟨decide_eq_true h3,decide_eq_false fun h4=>?_⟩
     rw[xH.2 ⟨⟨h1,h2⟩,h3,h4⟩]at hm
     cases hm
    ·exact Or.inl (decide_eq_false h3)
   ·exact Or.inl (decide_eq_false h2)
  ·exact Or.inl (decide_eq_false h1)
set_option maxHeartbeats 8000000 in
theorem EC(o:Op18)(q sl:Int)(W:World)(_:o.Uv)(_:I64 q∧I64 sl)(hL:LaidN W):Calls Tryz.prog 3 #[.agg o.v, .agg #[.int .i64 q, .int .i64 sl]] W fun e w'=>e= .returned (.bool true)∧Below W.heap.size W w':=by
 obtain⟨od,op,on,ox,oy,ob,ova,oa⟩:=o
 have AW:=Lib.hid (fun V (hb:Below W.heap.size W V)=>hL.awake18 V hb)
 have LQ:=Lib.hid (fun V (hb:Below W.heap.size W V)=>And.intro (hL.lq.below hb) (hL.lw.below hb))
 obtain⟨w3,hw3⟩:∃w3,w3=((W.alloc (.cells (Jh od op on ox oy ob ova oa) 27)).alloc (pcO q sl)).alloc (.cells nA 39):=⟨_,rfl⟩
 have B3:Hid (Below W.heap.size W w3):=Lib.hid (by rw[hw3];exact(ak W _ _).alloc (ak W _ _).size _)
 have O3:Hid (w3.heap[W.heap.size]? =some (.cells (Jh od op on ox oy ob ova oa) 27 (0,0))):=Lib.hid (by rw[hw3];exact(heap_alloc_old _ _ (lt_of_block (heap_alloc2_old W _ _))).trans (heap_alloc2_old W _ _))
 have C3:Hid (w3.heap[W.heap.size+1]? =some (pcO q sl)):=Lib.hid (by rw[hw3];exact(heap_alloc_old _ _ (lt_of_block (heap_alloc2_new W _ _))).trans (heap_alloc2_new W _ _))
 have N3:Hid (w3.heap[W.heap.size+2]? =some (.cells nA 39 (0,0))):=Lib.hid (by
  rw[hw3]
  have h:=heap_alloc_new ((W.alloc (.cells (Jh od op on ox oy ob ova oa) 27)).alloc (pcO q sl)) (.cells nA 39)
  have e:((W.alloc (.cells (Jh od op on ox oy ob ova oa) 27)).alloc (pcO q sl)).heap.size=W.heap.size+2:=by rw[World.size_alloc,World.size_alloc]
  rwa [e]at h)
 have OC:Hid (∀V,Below w3.heap.size w3 V→V.cell? ⟨W.heap.size,1,none⟩=some (.int .i64 op)∧V.cell? ⟨W.heap.size,2,none⟩=some (.int .i64 on)∧V.cell? ⟨W.heap.size,7,none⟩=some (.int .u32 oa)):=Lib.hid fun V hb=>by
  have:=fun i=>cell_of_row V W.heap.size i _ _ _ (below_block hb O3.out)
  exact⟨this 1,this 2,this 7⟩
 have CC:Hid (∀V,Below w3.heap.size w3 V→V.cell? ⟨W.heap.size+1,0,none⟩=some (.int .i64 q)∧V.cell? ⟨W.heap.size+1,1,none⟩=some (.int .i64 sl)):=Lib.hid fun V hb=>by
  have:=fun i=>cell_of_row V (W.heap.size+1) i _ _ _ (below_block hb C3.out)
  exact⟨this 0,this 1⟩
 clear hL
 go_enter Tryz.func3,Tryz.ntmps3
 go_wp2_with fail
 rw[←hw3]
 clear hw3
 go_loopw [5,7] (fun v i wr=>∃k:Nat,i= .int .i64 (k:Int)∧k≤2∧v= .pointer (if k=2 then some ⟨W.heap.size+2,0,none⟩else none)∧Below w3.heap.size w3 wr) (fun _ i _=>2-(intOf i).toNat)
 case atStart=>exact⟨0,rfl,by decide,rfl,Below.refl _ _⟩
 case round=>
  obtain⟨k,rfl,hk,rfl,hB⟩:=hrel
  have BR:=Lib.hid hB
  clear hB
  rcases(show k=0∨k=1∨k=2 by omega)with rfl|rfl|rfl
  ·rw[if_neg (by decide)]
   have NP:Hid (∀V,Below w3.heap.size w3 V→rA V none):=Lib.hid fun V hb=>Or.inl rfl
   obtain⟨c1,c2,c7⟩:=OC.out wr BR.out
   go_wp2_with fail
   refine(QM (NP.out _ BR.out) op on).mono ?_
   rintro e w10 ⟨rfl,hb⟩
   have B10:=Lib.hid (BR.out.trans (hb.mono BR.out.size))
   clear hb c1 c2 c7
   obtain⟨c1,c2,c7⟩:=OC.out w10 B10.out
   go_wp2_with fail
   refine(MB (NP.out _ B10.out) op on oa).mono ?_
   rintro e w11 ⟨rfl,hb⟩
   have B11:=Lib.hid (B10.out.trans (hb.mono B10.out.size))
   clear hb c1 c2 c7
   obtain⟨c1,c2,c7⟩:=OC.out w11 B11.out
   go_wp2_with fail
   refine(DN (NP.out _ B11.out)).mono ?_
   rintro e w12 ⟨rfl,hb⟩
   have UD:=Lib.hid (B11.out.trans (hb.mono B11.out.size))
   clear hb c1 c2 c7
   obtain⟨c1,c2,c7⟩:=OC.out w12 UD.out
   go_wp2_with fail
   refine(QO (NP.out _ UD.out) op).mono ?_
   rintro e w13 ⟨rfl,hb⟩
   have UH:=Lib.hid (UD.out.trans (hb.mono UD.out.size))
   clear hb c1 c2 c7
   obtain⟨c1,c2,c7⟩:=OC.out w13 UH.out
   have ZR:=Lib.hid (heap_alloc_new w13 (vX z8))
   have BZ:=Lib.hid (below_setRow (UH.out.alloc UH.out.size (vX z8)) UH.out.size (ah z8))
   go_wp2_with(refine aH vW rfl (.tmp 14) (.tmp 67) rfl w13.heap.size (ah z8) rfl rfl _ ZR.out rfl rfl (fJ z8) ?_)
   refine(MC (NP.out _ BZ.out)).mono ?_
   rintro e w14 ⟨rfl,hb⟩
   have B14:=Lib.hid (BZ.out.trans (hb.mono BZ.out.size))
   clear hb c1 c2 c7
   obtain⟨c1,c2,c7⟩:=OC.out w14 B14.out
   go_wp2_with fail
   refine(QS (NP.out _ B14.out) op 0).mono ?_
   rintro e w15 ⟨rfl,hb⟩
   have B15:=Lib.hid (B14.out.trans (hb.mono B14.out.size))
   clear hb c1 c2 c7
   obtain⟨c1,c2,c7⟩:=OC.out w15 B15.out
   go_wp2_with fail
   refine(QT (NP.out _ B15.out) op).mono ?_
   rintro e w16 ⟨rfl,hb⟩
   have B16:=Lib.hid (B15.out.trans (hb.mono B15.out.size))
   clear hb c1 c2 c7
   obtain⟨c1,c2,c7⟩:=OC.out w16 B16.out
   go_wp2_with fail
   refine(QU (NP.out _ B16.out) op 2 0).mono ?_
   rintro e w17 ⟨rfl,hb⟩
   have B17:=Lib.hid (B16.out.trans (hb.mono B16.out.size))
   clear hb c1 c2 c7
   obtain⟨c1,c2,c7⟩:=OC.out w17 B17.out
   go_wp2_with fail
   refine(QV (NP.out _ B17.out) op 0).mono ?_
   rintro e w18 ⟨rfl,hb⟩
   have B18:=Lib.hid (B17.out.trans (hb.mono B17.out.size))
   clear hb c1 c2 c7
   obtain⟨c1,c2,c7⟩:=OC.out w18 B18.out
   go_wp2_with fail
   refine(QW (NP.out _ B18.out)).mono ?_
   rintro e w19 ⟨rfl,hb⟩
   have B19:=Lib.hid (B18.out.trans (hb.mono B18.out.size))
   clear hb c1 c2 c7
   obtain⟨c1,c2,c7⟩:=OC.out w19 B19.out
   go_wp2_with fail
   refine(QY (NP.out _ B19.out)).mono ?_
   rintro e w20 ⟨rfl,hb⟩
   have B20:=Lib.hid (B19.out.trans (hb.mono B19.out.size))
   clear hb c1 c2 c7
   obtain⟨c1,c2,c7⟩:=OC.out w20 B20.out
   go_wp2_with fail
   refine(MH (NP.out _ B20.out) 1).mono ?_
   rintro e w21 ⟨rfl,hb⟩
   have B21:=Lib.hid (B20.out.trans (hb.mono B20.out.size))
   clear hb c1 c2 c7
   obtain⟨c1,c2,c7⟩:=OC.out w21 B21.out
   go_wp2_with fail
   refine(G7 (NP.out _ B21.out)).mono ?_
   rintro e w22 ⟨rfl,hb⟩
   have B22:=Lib.hid (B21.out.trans (hb.mono B21.out.size))
   clear hb c1 c2 c7
   obtain⟨c1,c2,c7⟩:=OC.out w22 B22.out
   go_wp2_with fail
   go_roundw
   case rel=>exact⟨1,by go_num,by decide,by simp,B22.out⟩
   case measure=>simp[intOf]
  ·rw[if_neg (by decide)]
   have NP:Hid (∀V,Below w3.heap.size w3 V→rA V (some ⟨W.heap.size+2,0,none⟩)):=Lib.hid fun V hb=>Or.inr ⟨_,rfl,below_block hb N3.out⟩
   obtain⟨c1,c2,c7⟩:=OC.out wr BR.out
   go_wp2_with fail
   refine(QM (NP.out _ BR.out) op on).mono ?_
   rintro e w10 ⟨rfl,hb⟩
   have B10:=Lib.hid (BR.out.trans (hb.mono BR.out.size))
   clear hb c1 c2 c7
   obtain⟨c1,c2,c7⟩:=OC.out w10 B10.out
   go_wp2_with fail
   refine(MB (NP.out _ B10.out) op on oa).mono ?_
   rintro e w11 ⟨rfl,hb⟩
   have B11:=Lib.hid (B10.out.trans (hb.mono B10.out.size))
   clear hb c1 c2 c7
   obtain⟨c1,c2,c7⟩:=OC.out w11 B11.out
   go_wp2_with fail
   refine(DN (NP.out _ B11.out)).mono ?_
   rintro e w12 ⟨rfl,hb⟩
   have UD:=Lib.hid (B11.out.trans (hb.mono B11.out.size))
   clear hb c1 c2 c7
   obtain⟨c1,c2,c7⟩:=OC.out w12 UD.out
   go_wp2_with fail
   refine(QO (NP.out _ UD.out) op).mono ?_
   rintro e w13 ⟨rfl,hb⟩
   have UH:=Lib.hid (UD.out.trans (hb.mono UD.out.size))
   clear hb c1 c2 c7
   obtain⟨c1,c2,c7⟩:=OC.out w13 UH.out
   have ZR:=Lib.hid (heap_alloc_new w13 (vX z8))
   have BZ:=Lib.hid (below_setRow (UH.out.alloc UH.out.size (vX z8)) UH.out.size (ah z8))
   go_wp2_with(refine aH vW rfl (.tmp 14) (.tmp 67) rfl w13.heap.size (ah z8) rfl rfl _ ZR.out rfl rfl (fJ z8) ?_)
   refine(MC (NP.out _ BZ.out)).mono ?_
   rintro e w14 ⟨rfl,hb⟩
   have B14:=Lib.hid (BZ.out.trans (hb.mono BZ.out.size))
   clear hb c1 c2 c7
   obtain⟨c1,c2,c7⟩:=OC.out w14 B14.out
   go_wp2_with fail
   refine(QS (NP.out _ B14.out) op 0).mono ?_
   rintro e w15 ⟨rfl,hb⟩
   have B15:=Lib.hid (B14.out.trans (hb.mono B14.out.size))
   clear hb c1 c2 c7
   obtain⟨c1,c2,c7⟩:=OC.out w15 B15.out
   go_wp2_with fail
   refine(QT (NP.out _ B15.out) op).mono ?_
   rintro e w16 ⟨rfl,hb⟩
   have B16:=Lib.hid (B15.out.trans (hb.mono B15.out.size))
   clear hb c1 c2 c7
   obtain⟨c1,c2,c7⟩:=OC.out w16 B16.out
   go_wp2_with fail
   refine(QU (NP.out _ B16.out) op 2 0).mono ?_
   rintro e w17 ⟨rfl,hb⟩
   have B17:=Lib.hid (B16.out.trans (hb.mono B16.out.size))
   clear hb c1 c2 c7
   obtain⟨c1,c2,c7⟩:=OC.out w17 B17.out
   go_wp2_with fail
   refine(QV (NP.out _ B17.out) op 0).mono ?_
   rintro e w18 ⟨rfl,hb⟩
   have B18:=Lib.hid (B17.out.trans (hb.mono B17.out.size))
   clear hb c1 c2 c7
   obtain⟨c1,c2,c7⟩:=OC.out w18 B18.out
   go_wp2_with fail
   refine(QW (NP.out _ B18.out)).mono ?_
   rintro e w19 ⟨rfl,hb⟩
   have B19:=Lib.hid (B18.out.trans (hb.mono B18.out.size))
   clear hb c1 c2 c7
   obtain⟨c1,c2,c7⟩:=OC.out w19 B19.out
   go_wp2_with fail
   refine(QY (NP.out _ B19.out)).mono ?_
   rintro e w20 ⟨rfl,hb⟩
   have B20:=Lib.hid (B19.out.trans (hb.mono B19.out.size))
   clear hb c1 c2 c7
   obtain⟨c1,c2,c7⟩:=OC.out w20 B20.out
   go_wp2_with fail
   refine(MH (NP.out _ B20.out) 1).mono ?_
   rintro e w21 ⟨rfl,hb⟩
   have B21:=Lib.hid (B20.out.trans (hb.mono B20.out.size))
   clear hb c1 c2 c7
   obtain⟨c1,c2,c7⟩:=OC.out w21 B21.out
   go_wp2_with fail
   refine(G7 (NP.out _ B21.out)).mono ?_
   rintro e w22 ⟨rfl,hb⟩
   have B22:=Lib.hid (B21.out.trans (hb.mono B21.out.size))
   clear hb c1 c2 c7
   obtain⟨c1,c2,c7⟩:=OC.out w22 B22.out
   go_wp2_with fail
   go_roundw
   case rel=>exact⟨2,by go_num,by decide,by simp,B22.out⟩
   case measure=>simp[intOf]
  ·rw[if_pos rfl]
   have LQ2:=Lib.hid (LQ.out wr (B3.out.trans (BR.out.mono B3.out.size)))
   go_wp2_with fail
   refine(show Calls Tryz.prog 24 #[.int .i64 70] _ _ from UW 70 _ (by decide) (by decide)).mono ?_
   rintro e w5 hp
   obtain⟨mp,fb,rfl,hm,Oj,hn1,hn2⟩:∃mp fb,e= .returned (.tuple #[.pointer (some ⟨mp,0,none⟩), .int .i64 0])∧bT w5 mp fb 70 (List.replicate (70*32) 0)∧Below wr.heap.size wr w5∧wr.heap.size≤mp∧wr.heap.size≤fb:=by
    obtain⟨mp,fb,he,hm,h1,h2,hb⟩:=hp
    exact⟨mp,fb,he,hm,hb,h1,h2⟩
   have M5:Hid (xV wr w5 mp fb 70 (List.replicate (70*32) 0)):=Lib.hid ⟨hm,Oj,hn1,hn2⟩
   clear hp hm Oj hn1 hn2
   go_wp2_with fail
   have M6:=Lib.hid (M5.out.step ((Below.refl _ _).alloc (Nat.le_refl _) (DY 0 64)))
   refine(zI mp fb 70 _ [(0,64)] _ _ M6.out.st (Fx (heap_alloc_new w5 _))).mono ?_
   rintro e w7 hp
   obtain⟨X,rfl,ho,hmp,hpb,hn,hP,_⟩:=bX.af5 M6.out LQ2.out.1 hp YM
   have PO:=Lib.hid ho
   have HX:=Lib.hid (And.intro hn (show X.P=cu 0 64 [] by rw[hP];simp[xZ]))
   have PN:Hid (Jj wr w7 X.mp X.pb):=Lib.hid ⟨X,_,_,ho,rfl,rfl,HX.out.2,hn⟩
   have EM:X.mp=mp:=hmp
   rw[←EM]
   clear hp ho hP hn hmp hpb EM M5 M6
   have CX:Hid (∀V,Below wr.heap.size wr V→V.cell? ⟨W.heap.size+1,0,none⟩=some (.int .i64 q)∧V.cell? ⟨W.heap.size+1,1,none⟩=some (.int .i64 sl)):=Lib.hid fun V hb=>CC.out V (BR.out.trans (hb.mono BR.out.size))
   obtain⟨q0,q1⟩:=CX.out w7 PN.out.below
   obtain⟨a8,r8,k8⟩:=PN.out.nomem
   have K8:=Lib.hid k8
   clear k8
   go_wp2_with fail
   refine(Ms K8.out (Or.inl rfl) 0 64 3 q sl).mono ?_
   rintro e w8 ⟨rfl,hb⟩
   have P8:=Lib.hid (PN.out.step hb)
   have O8:=Lib.hid (PO.out.step hb)
   clear hb q0 q1
   obtain⟨q0,q1⟩:=CX.out w8 P8.out.below
   go_wp2_with fail
   refine(Ms P8.out.ae5 (Or.inr ⟨by decide,rfl⟩) 0 64 3 q sl).mono ?_
   rintro e w9 ⟨rfl,hb⟩
   have P9:=Lib.hid (P8.out.step hb)
   have O9:=Lib.hid (O8.out.step hb)
   clear hb q0 q1
   obtain⟨q0,q1⟩:=CX.out w9 P9.out.below
   go_wp2_with fail
   refine(YL O9.out LQ2.out.2 HX.out.1 HX.out.2 q sl).mono ?_
   rintro e w10 ⟨y,er,rfl,hy,hpn⟩
   have P10:=Lib.hid hpn
   have HY:=Lib.hid (YN hy)
   clear hpn hy q0 q1
   obtain⟨q0,q1⟩:=CX.out w10 P10.out.below
   go_wp2_with fail
   refine(UA P10.out q sl).mono ?_
   rintro e w11 ⟨rfl,hb⟩
   have P11:=Lib.hid (P10.out.step hb)
   clear hb q0 q1
   obtain⟨q0,q1⟩:=CX.out w11 P11.out.below
   go_wp2_with fail
   refine(UC P11.out q sl).mono ?_
   rintro e w12 ⟨rfl,hb⟩
   have P12:=Lib.hid (P11.out.step hb)
   have UD:Hid (Below W.heap.size W w12):=Lib.hid (B3.out.trans ((BR.out.trans (P12.out.below.mono BR.out.size)).mono B3.out.size))
   clear hb q0 q1
   obtain⟨q0,q1⟩:=CX.out w12 P12.out.below
   have hy:=HY.out
   clear HY PN PO HX P8 P9 P10 P11 O8 O9
   rcases hy with⟨d1,d2,d3,d4,rfl,yb,rfl⟩|⟨rfl,rfl,d1|⟨d1,d2|⟨d2,d3|⟨d3,d4⟩⟩⟩⟩
   all_goals
    go_wp2_with fail
    refine(AW.out w12 UD.out).mono ?_
    rintro e w13 ⟨rfl,hb⟩
    have UH:=Lib.hid (UD.out.trans (hb.mono UD.out.size))
    clear hb
    go_wp2_with fail
    go_ret
    exact⟨rfl,UH.out⟩
end Go.Proofs.YtammlljefhakmaaGreatDoor
namespace Go.Proofs.YtammlljefhakmaaGreatDoor
open Go.ChangeShapes Go.WideShapes Go.ChangeAt Go.RowKit Go.Joins
set_option maxRecDepth 100000
theorem Aj(os:Os)(started:os.Started)(H:Type)(enc:TypeId×Value→H):
  ReturnsInHanded {} Tryz.checked os 3 .any (fun w args=>(Rows.procNoneSpec.pre enc Tryz.prog Tryz.f3 [] false w args∧laidMetH Tryz.prog jV w)∧sizedMet enc Tryz.prog Tryz.f3 (OpenSpec.ofChange Rows.procNoneSpec) false w args)
   (Rows.procNoneSpec.post enc Tryz.prog Tryz.f3 false true false false):=by
 refine nV Ci (tb:=4) started (by kernel_rfl) Tryz.func3 rfl rfl Tryz.underlying4 (by kernel_rfl)
  (fun ds h=>by match ds,h with|[_,_],_=>rfl)
  (ChangeSpec.witness_shaped (enc:=enc) (C:=Tryz.checked) (os:=os) (X:=fun w _=>laidMetH Tryz.prog jV w) false (World.doorLaid Tryz.prog 400 os) #[.agg #[.int .i64 0, .int .i64 0, .int .i64 0, .int .i64 0, .int .i64 0, .bool false, .int .u32 0, .int .u32 0], .agg #[.int .i64 0, .int .i64 0]] 8 rfl (World.shaped_of_RefB (by kernel_rfl) (by kernel_rfl)) (by kernel_rfl) (by kernel_rfl) (by kernel_rfl) (vM os _)) ?_
 intro W args ds p base hval hA hlt hL
 rw[Tryz.params3]at hA hval
 obtain⟨v0,vs0,d0,ds0,p0,q0,hargs,rfl,rfl,h0,r0⟩:=trodAll_cons hA
 obtain⟨v1,vs1,d1,ds1,p1,q1,rfl,rfl,rfl,h1,r1⟩:=trodAll_cons r0
 obtain⟨rfl,rfl,rfl⟩:=trodAll_nil r1
 obtain rfl:args=#[v0,v1]:=by cases args;simp_all
 obtain⟨q0,rfl,O0⟩:=Uy (hval 0 27 v0 rfl rfl) h0
 obtain⟨x1,y1,rfl,ax1,ay1⟩:=zk (hval 1 29 v1 rfl rfl) h1
 exact EC q0 x1 y1 W O0 ⟨ax1,ay1⟩ hL
theorem procNone_holds:Rows.ProcNoneSaid:=
 OpenClaim.holds_of_wide 3 Tryz.f3 rfl rfl rfl rfl rfl rfl rfl ⟨rfl,rfl,rfl,rfl,rfl⟩ rfl rfl rfl rfl rfl (by kernel_rfl) Tryz.func3 (by kernel_rfl)
  (of_decide_eq_true (by kernel_rfl)) (by unfold Func.isWrapper;first|(rw[if_pos (by decide+kernel)];kernel_rfl)|(rw[if_neg (by decide+kernel)];exact⟨rfl,rfl⟩))
  (fun os started H enc _=>Aj os started H enc)
theorem procNone_card:Rows.ProcNoneCardSaid:=
 Claim7.holds_tied_plain_at .later [] [.data, .data, .data] true Rows.procNoneCard.stood.harness false
  procNone_holds (fun _ h=>by cases h) (by kernel_rfl) (fun _ h=>by cases h) procNone_row_tie rfl ⟨rfl,rfl⟩ (by kernel_rfl) rfl
  (fun f fn hf hfn=>by
   obtain rfl:f=3:=Option.some.inj ((show Tryz.prog.funcNamed "priory/priorylaw18.ProcNone" =some 3 by kernel_rfl).symm.trans hf) |>.symm
   obtain rfl:fn=Tryz.f3:=(Option.some.inj (Tryz.func3.symm.trans hfn)).symm
   exact⟨by kernel_rfl,fun j t ht=>by
    rw[Tryz.params3]at ht
    have hm:t∈[27,29]:=by simpa using Array.mem_of_getElem? ht
    have hall:([27,29].all fun u=> !Tryz.prog.wantsStandIn u)=true:=by kernel_rfl
    exact(show Tryz.prog.wantsStandIn t=false by simpa using List.all_eq_true.1 hall t hm)⟩)
  (by kernel_rfl)
end Go.Proofs.YtammlljefhakmaaGreatDoor
