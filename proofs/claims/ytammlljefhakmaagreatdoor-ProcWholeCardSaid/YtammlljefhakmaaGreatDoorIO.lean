/- Helps of the proof. No condition. -/
import Derived.Test.YtammlljefhakmaaGreatDoorIN
import Derived.Test.YtammlljefhakmaaGreatDoorQ9
namespace Go.Proofs.YtammlljefhakmaaGreatDoor
open Go.RowKit Go.Maps
set_option maxRecDepth 100000
section
theorem TQ(q sl:Int)(a:Option Addr)(n cp:Nat)(W:World)(h:fineB q sl=false∨fineB q sl=true∧(40:Int)<(n:Int))(hL:LaidN W):Calls Tryz.prog 7 #[.agg #[.int .i64 q, .int .i64 sl], .slice a n cp] W fun e w'=>e= .returned (.bool true)∧Below W.heap.size W w':=by
 have B1:=Lib.hid (Below.alloc (Below.refl W.heap.size W) (Nat.le_refl _) (pcO q sl))
 have X1:=Lib.hid (heap_alloc_new W (pcO q sl))
 have AW:=Lib.hid (fun V (hb:Below W.heap.size W V)=>hL.awake18 V hb)
 have h':∃fb,(fineB q sl=fb)∧(fb=false∨fb=true∧decide ((40:Int)<(n:Int))=true):=⟨_,rfl,h.imp id fun⟨h0,h1⟩=>⟨h0,decide_eq_true h1⟩⟩
 clear h hL
 obtain⟨fb,hf,hc⟩:=h'
 have FN:=Lib.hid (fun V=>fine18_ok q sl V hf)
 clear hf
 rcases hc with rfl|⟨rfl,d1⟩
 all_goals
  go_enter Tryz.func7,Tryz.ntmps7
  go_wp2_with fail
  refine(FN.out _).mono ?_
  rintro e w2 ⟨rfl,hb⟩
  have B2:=Lib.hid (B1.out.trans (hb.mono B1.out.size))
  have AW2:=Lib.hid (AW.out w2 B2.out)
  clear hb
  go_wp2_with fail
  refine AW2.out.mono ?_
  rintro e w3 ⟨rfl,hb⟩
  have B3:=Lib.hid (B2.out.trans (hb.mono B2.out.size))
  clear hb
  go_wp2_with fail
  go_ret
  exact⟨rfl,B3.out⟩
theorem TU(q sl:Int)(a:Option Addr)(n cp:Nat)(W:World)(h:fineB q sl=false∨fineB q sl=true∧(60:Int)<(n:Int))(hL:LaidN W):Calls Tryz.prog 4 #[.agg #[.int .i64 q, .int .i64 sl], .slice a n cp] W fun e w'=>e= .returned (.bool true)∧Below W.heap.size W w':=by
 have B1:=Lib.hid (Below.alloc (Below.refl W.heap.size W) (Nat.le_refl _) (pcO q sl))
 have X1:=Lib.hid (heap_alloc_new W (pcO q sl))
 have AW:=Lib.hid (fun V (hb:Below W.heap.size W V)=>hL.awake18 V hb)
 have h':∃fb,(fineB q sl=fb)∧(fb=false∨fb=true∧decide ((60:Int)<(n:Int))=true):=⟨_,rfl,h.imp id fun⟨h0,h1⟩=>⟨h0,decide_eq_true h1⟩⟩
 clear h hL
 obtain⟨fb,hf,hc⟩:=h'
 have FN:=Lib.hid (fun V=>fine18_ok q sl V hf)
 clear hf
 rcases hc with rfl|⟨rfl,d1⟩
 all_goals
  go_enter Tryz.func4,Tryz.ntmps4
  go_wp2_with fail
  refine(FN.out _).mono ?_
  rintro e w2 ⟨rfl,hb⟩
  have B2:=Lib.hid (B1.out.trans (hb.mono B1.out.size))
  have AW2:=Lib.hid (AW.out w2 B2.out)
  clear hb
  go_wp2_with fail
  refine AW2.out.mono ?_
  rintro e w3 ⟨rfl,hb⟩
  have B3:=Lib.hid (B2.out.trans (hb.mono B2.out.size))
  clear hb
  go_wp2_with fail
  go_ret
  exact⟨rfl,B3.out⟩
abbrev qy(L:List Int):List Nat:=L.map Int.toNat
theorem Oj{L:List Int}(h:∀x∈L,0≤x):pW (qy L)=iw L:=by
 unfold pW qy iw
 rw[List.map_map]
 refine List.map_congr_left fun x hx=>?_
 have:=h x hx
 simp only[Function.comp]
 congr 1
 omega
theorem uN{w:World}{base:Nat}{v:Value}{L:List Int}(h:xZ w base v L)(hL:∀x∈L,0≤x):Du w v (qy L):=Yd (base:=base) (e:=3) (by
 rw[Oj hL,List.length_map]
 exact h)
section
variable {W0 w:World} {J:kY} {q c:Nat} {D:Int→Option Sp} {T:List Nd} {Qu:List Int} {Lb:List Nd} {G:Int→Option Pc} {rg:Int→Nat→Int}
theorem jM.low{n:Int}(h:jM n T Qu Lb G):∀x∈Qu,0≤x:=fun x hx=>by
 have:=gD.num h.good (Or.inl ((h.row x).1 hx))
 omega
theorem bY.ag2(h:bY W0 w J q c D T Qu Lb G rg):Calls Tryz.prog 15 #[.pointer (some ⟨J.ps,0,none⟩)] w fun e w'=>e= .returned (.tuple #[])∧bY W0 w' J q c D T (mE Qu).2 Lb G rg∧Only w w' (fun k=>k=J.qb):=by
 have MD:=Lib.hid h.made
 have H:=Lib.hid h
 have hfl:=Qg
 clear h
 go_enter Tryz.func15,Tryz.ntmps15
 go_wp2_with fail
 refine MD.out.mono ?_
 rintro e w2 ⟨rfl,hb⟩
 have H2:=Lib.hid (H.out.step hb)
 have O2:Hid (Only w w2 (fun k=>k=J.qb)):=Lib.hid (Only.below hb)
 clear hb
 go_wp2_with fail
 refine(JH J.qb Qu w2 H2.out.pc.uU).mono ?_
 rintro e w3 ⟨rfl,ht⟩
 have P3:Hid (bY W0 w3 J q c D T (mE Qu).2 Lb G rg):=Lib.hid ⟨H2.out.pc.byQ ht,H2.out.fit.turn,(ht.xK H2.out.pc.uU).box H2.out.box (by decide)⟩
 have O3:Hid (Only w w3 (fun k=>k=J.qb)):=Lib.hid (O2.out.trans (Only.grown ht.grown rfl))
 clear ht
 go_wp2_with fail
 go_end0
 exact⟨rfl,P3.out,O3.out⟩
theorem ahM(R:List Int)(k:Nat)(h:k<R.length):R.drop k++R.take k=R.getD k 0::(R.drop (k+1)++R.take k):=by
 rw[List.drop_eq_getElem_cons h,List.getD_eq_getElem?_getD,List.getElem?_eq_getElem h];rfl
end
end
section
section
variable {W0 w:World} {J:kY} {q c:Nat} {D:Int→Option Sp} {T:List Nd} {Qu:List Int} {Lb:List Nd} {G:Int→Option Pc} {rg:Int→Nat→Int}
end
end
section
section
variable {W w:World} {J:kY} {q c:Nat} {Lb:List Nd} {tl:Nat} {p k ch:Int}
end
end
end Go.Proofs.YtammlljefhakmaaGreatDoor
