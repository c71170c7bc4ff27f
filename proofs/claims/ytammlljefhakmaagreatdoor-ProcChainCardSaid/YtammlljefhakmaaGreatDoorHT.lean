/- Helps of the proof. No condition. -/
import Derived.Test.YtammlljefhakmaaGreatDoorHR
namespace Go.Proofs.YtammlljefhakmaaGreatDoor
open Go.RowKit Go.Maps
set_option maxRecDepth 100000
section
theorem bS.start{n lo hi:Nat}(h:lo<hi∧hi≤n)(hn:n≤1024):bS n lo hi (List.replicate (n*32) 0) R0 noS (fun _=>none) (fun _=>none):=
 ⟨by simp,h,hn,fun _=>rfl,fun _ _ h=>(by cases h),fun _ _ _ h=>(by cases h),fun _ _ _ h=>(by cases h),fun _ _ _ h=>(by cases h),fun _ h=>(by cases h),fun _ h=>(by cases h)⟩
theorem Md(lo hi:Nat):dD lo hi R0=hi-lo:=by
 unfold dD
 rw[Fu _ R0 (fun _ _ _=>rfl)]
 simp[span]
theorem bM.start{W0 w:World}{tb sb n lo hi:Nat}{X:bD}{T:List (Nat×Nat)}(h:Mg W0 w tb sb X (List.replicate (n*32) 0) R0 noS)(hl:lo<hi∧hi≤n)(hn:n≤1024)(hX:X.n=n)(hP:X.P=cu lo hi T)(hk:∀f q,X.kw f q=0):bM W0 w tb sb X n lo hi (hi-lo) (fun _=>none) (fun _=>0) (fun _ _=>0):=
 ⟨⟨_,R0,noS,fun _=>none,T,h,bS.start hl hn,Md lo hi,hP,fun f=>by unfold QF;rfl,fun _ _ _ _ h=>absurd rfl h,fun _ h=>absurd rfl h,fun f q _ _ _=>by rw[hk,List.getD_eq_getElem?_getD,List.getElem?_replicate];split<;>rfl⟩,hX⟩
theorem J.start{n q:Nat}(hn:n≤1024)(hq:q≤65536):J n q q (fun _=>none) (fun _=>0) [(1,0,(q:Int),0)] ig (PG fun _=>none):=by
 refine⟨fun _ _ h=>(by cases h),fun _ _ _ h=>(by cases h),fun _ _ _ _ _ _ h=>(by cases h),fun f=>?_,fun _ _ _ h=>(by cases h),fun _ _ _ h=>(by cases h),fun i=>?_,Tree.one ⟨by omega,by omega⟩,?_,hn⟩
 ·simp[iO,b1,eO]
 ·unfold aZ aD fI ig
  by_cases e:(1:Int)=i
  ·simp[e]
  ·simp[e,aD]
 ·rw[Cv (fun _ _=>rfl)];simp[iO,fI]
theorem zS(n:Nat):Words (List.replicate n 0):=fun i=>by
 simp only[List.getD_eq_getElem?_getD,List.getElem?_replicate]
 split<;>simp
theorem bX.kw{W w:World}{X:bD}{L:List Int}{R:Nat→Nat}(h:bX W w X L R)(k:Nat→Nat→Int):bX W w { X with kw:=k } L R:=
 ⟨⟨h.st.mem,h.st.box,h.st.parts,h.st.sets,h.st.refs,h.st.fit,h.st.nodup⟩,h.below,h.new,h.laid⟩
def afG(W0 w:World)(X:bD)(n lo hi bb q:Nat)(fm:Nat→Option Obj)(e:Ending)(w':World):Prop:=∃I:lK,e= .returned (.tuple #[.pointer (some ⟨I.ss,0,none⟩), .int .i64 0])∧I.X={ X with kw:=fun _ _=>0 }∧I.bb=bb∧I.n=n∧I.lo=lo∧I.hi=hi∧I.fm=fm∧BL W0 w' I (hi-lo) (fun _=>0) (fun _ _=>0) [(1,0,(q:Int),0)] (fun _=>none) (fun _=>none)∧Below w.heap.size w w'∧w.heap.size≤I.ss
set_option maxHeartbeats 4000000 in
theorem aaQ{W0 w:World}{X:bD}{n lo hi q bb bm:Nat}{Pb:Pt}{T:List (Nat×Nat)}{fm:Nat→Option Obj}(hfm:∀k o,fm k=some o→w.heap[k]? =some o∧tL o=true∧k≠X.mb∧k≠bm)(h:bX W0 w X (List.replicate (n*32) 0) R0)(hw:aM W0)(hl:lo<hi∧hi≤n)(hn:n≤1024)(hX:X.n=n)(hP:X.P=cu lo hi T)(hq:q≤hi-lo)
  (hB:bA w bb bm Pb [(1,0,(q:Int),0)])(Oj:W0.heap.size≤bm)(hPb:∀i p,Pb i=some p→W0.heap.size≤p)(hne:bm≠X.mb):
  Calls Tryz.prog 72 #[.pointer (some ⟨X.mp,0,none⟩), .pointer (some ⟨X.pb,0,none⟩), .int .i64 0, .pointer (some ⟨bb,0,none⟩)] w (afG W0 w X n lo hi bb q fm):=by
 have h:=h.kw fun _ _=>0
 have FM:=Lib.hid hfm
 clear hfm
 obtain⟨c,hcc⟩:∃c,c=hi-lo:=⟨_,rfl⟩
 have CC:=Lib.hid hcc
 rw[←hcc]at hq
 clear hcc
 have AL:=Lib.hid (uo hB)
 have MG:=Lib.hid (show ∀W,Below w.heap.size w W→_ from fun W hb=>KQ (h.step hb) hw (zS (n*32)) (show gI X.P 0=true by rw[hP];simp[gI]))
 have HH:=Lib.hid (And.intro hl (And.intro hn (And.intro hX (And.intro hP hq))))
 have BB:=Lib.hid (And.intro hB (And.intro Oj (And.intro hPb hne)))
 have HP:=Lib.hid h
 have hmm:=@run_makeMap Tryz.prog
 have d0:decide (c<q)=false:=decide_eq_false (by omega)
 clear hl hn hX hP hq hB Oj hPb hne h
 go_enter Tryz.func72,Tryz.ntmps72
 go_wp2_with fail
 refine AL.out.mono ?_
 rintro e w1 ⟨v,rfl,ho,hb⟩
 have B1:=Lib.hid hb
 have N1:=Lib.hid (L9.lJ ho)
 obtain⟨a,cp,rfl,hg⟩:=N1.out
 obtain⟨g,rfl,hg1,hg2⟩:=hg.resolve_left (by simp)
 have c2:w1.cell? ⟨g,2,none⟩=some (.int .i64 (q:Int)):=(hg2 0 (by simp)).2.2.1
 have G1:=Lib.hid (And.intro hg1 c2)
 clear ho hb hg hg1 hg2 c2 N1
 simp only[List.length_singleton]
 go_wp2_with fail
 refine(MG.out w1 B1.out).mono ?_
 rintro e w2 ⟨tb,sb,rfl,hg,hb2,ht,hs⟩
 have B2:=Lib.hid (B1.out.trans (hb2.mono B1.out.size))
 have c2:w2.cell? ⟨g,2,none⟩=some (.int .i64 (q:Int)):=(hb2.cell (p:=⟨g,2,none⟩) G1.out.1).trans G1.out.2
 have SY:=Lib.hid (bM.start hg HH.out.1 HH.out.2.1 HH.out.2.2.1 HH.out.2.2.2.1 fun _ _=>rfl)
 rw[←CC.out]at SY
 have LF:=Lib.hid (SY.out.step (Below.refl _ _).drew).left
 have GL:=Lib.hid (show g<w2.heap.size from Nat.lt_of_lt_of_le G1.out.1 hb2.size)
 have TS:=Lib.hid (And.intro ht hs)
 have SBW:=Lib.hid hg.iK.lt
 clear hg hb2 ht hs
 go_wp2_with fail
 go_region_held3 (fun W=>W.cell? ⟨g,2,none⟩=some (.int .i64 (q:Int))) (first|go_keep|exact c2)
  (first
   |((go_at_call 35;with_reducible refine LF.out.mono ?_);rintro e w3 ⟨rfl,hb3⟩;have B3:Hid (Below w2.heap.size w2 w3):=Lib.hid (eF hb3);have c2:w3.cell? ⟨g,2,none⟩=some (.int .i64 (q:Int)):=(B3.out.cell (p:=⟨g,2,none⟩) GL.out).trans c2;clear hb3))
 have hle:=B2.out.size
 have hle3:=B3.out.size
 have hbw:=BB.out.1.lt (Or.inl rfl)
 have hmb:X.mb<w.heap.size:=HP.out.st.lt _ (Or.inl (Or.inr (Or.inl rfl)))
 have SZ:=Lib.hid (And.intro hle (And.intro hle3 (And.intro hbw hmb)))
 clear hle hle3 hbw hmb
 go_wp2_with fail
 go_ret2
 have hb:=ak w3 (.map #[] 0) (ssO ⟨w3.heap.size+1,tb,sb,bb,bm,w3.heap.size,{ X with kw:=fun _ _=>0 },n,lo,hi,fun _=>none,fm⟩)
 have hB3:=B3.out.trans (hb.mono B3.out.size)
 have hS:=SY.out.step hB3
 have hd:=SZ.out
 have ht:=TS.out
 refine⟨⟨w3.heap.size+1,tb,sb,bb,bm,w3.heap.size,{ X with kw:=fun _ _=>0 },n,lo,hi,fun _=>none,fm⟩,rfl,rfl,rfl,rfl,rfl,rfl,rfl,⟨fun _=>none,Pb,⟨by rw[←CC.out];exact hS,BB.out.1.step (B2.out.trans (hB3.mono B2.out.size)),heap_alloc2_new _ _ _,(aT.made w3).same ((heap_alloc2_old w3 _ _).trans (heap_alloc_new w3 _).symm),fun _ _ h=>(by cases h),BB.out.2.1,?_,BB.out.2.2.1,fun _ _ h=>(by cases h),⟨BB.out.2.2.2,?_,?_,?_,?_⟩,fun _ _ h=>(by cases h),⟨fun k o hk=>⟨(B2.out.trans (hB3.mono B2.out.size)).block k (lt_of_block (FM.out k o hk).1) |>.trans (FM.out k o hk).1,(FM.out k o hk).2.1⟩,fun k hk=>?_⟩⟩,⟨fun _ _=>rfl,fun _ _ h=>(by cases h),fun _ _ _ _ h=>(by cases h)⟩⟩,B2.out.trans (hB3.mono B2.out.size),?_⟩
 ·exact Nat.le_trans (SY.out.step B3.out).below.size (Nat.le_refl _)
 ·show bm≠sb;have:=B1.out.size;omega
 ·show w3.heap.size≠X.mb;omega
 ·show w3.heap.size≠sb;have:=SBW.out;omega
 ·show w3.heap.size≠bm;omega
 ·obtain⟨o,e⟩:=Option.isSome_iff_exists.1 hk
  obtain⟨h1,_,h3,h4⟩:=FM.out k o e
  have:=lt_of_block h1
  have:=B1.out.size
  exact⟨h3,by show k≠sb;omega,h4,by show k≠w3.heap.size;omega⟩
 ·show w.heap.size≤w3.heap.size+1;omega
end
section
end
section
section
variable {W0 w:World} {I:lK} {q:Nat} {Lb:List Nd} {G:Int→Option Pc} {pr:Int→Nat→Bool} {rd:Int→Nat→Nat→Int}
def fkR(rd:Int→Nat→Nat→Int)(f t:Int)(j:Int)(r y:Nat):Int:=if j=t then rd f r y else rd j r y
end
end
section
end
section
theorem iC.src{w:World}{ad:Addr}{n c:Nat}{L:List Ar}(h:iC w (.slice (some ad) n c) L):afA w (.slice (some ad) n c) n (arsV L):=by
 obtain⟨a',c',e,hl,hw,h⟩:=h
 injection e with e1 e2 e3
 subst e1 e3
 refine Or.inr ⟨ad,c,rfl,fun j u hu=>?_⟩
 rcases h with rfl|⟨b,o,e,hlt,hc⟩
 ·simp[arsV]at hu
 ·cases e
  exact Ub hc j u hu
theorem Me{w:World}{base:Nat}{e:TypeId}{size:Nat}{v:Value}{n:Nat}{xs:List Value}(h:w.ownsRow base e size v n xs):∃a c,v= .slice a n c:=by
 rcases h.2 with⟨rfl,h0⟩|⟨g,cap,cur,rfl,_⟩
 ·have:n=0:=by first|exact h0|exact h0.1
  subst this;exact⟨_,_,rfl⟩
 ·exact⟨_,_,rfl⟩
set_option maxHeartbeats 1000000 in
theorem aaR(L:List Ar)(v:Value)(w:World)(h:iC w v L)(hl:L.length≤100):Calls Tryz.prog 77 #[v] w fun e w'=>∃a c,e= .returned (.slice a L.length c)∧(L=[]∨w'.ownsRow w.heap.size 23 3 (.slice a L.length c) L.length (arsV L))∧Below w.heap.size w w':=by
 obtain⟨ii,hi,hi0,hi1,hi2⟩:=info_parts Li
 have OM:=Lib.hid (World.ownsRow_lit (base:=w.heap.size) (e:=23) (size:=3) w #[] 0 (Nat.le_refl _) (by decide) rfl)
 have AM:Hid (Below w.heap.size w (w.alloc (.cells #[] 23))):=Lib.hid ((Below.refl _ _).alloc (Nat.le_refl _) _)
 have A0:=Lib.hid h
 obtain⟨a,c,rfl⟩:=h.form
 cases a with
 | none=>
  have e0:L.length=0:=by
   obtain⟨a',c',e,_,_,h⟩:=h
   injection e with e1 e2 e3
   rcases h with rfl|⟨b,o,e,_⟩
   ·rfl
   ·rw[e]at e1;cases e1
  have E0:=Lib.hid (List.eq_nil_of_length_eq_zero e0)
  rw[e0]
  have q0:∀w:World,(binOp .eql 81 (.slice none 0 c) (.slice none 0 0)).run Tryz.prog w= .ok (.bool true) w:=fun _=>rfl
  clear h A0 OM AM e0
  go_enter Tryz.func77,Tryz.ntmps77
  go_wp2
  go_ret
  exact⟨_,_,rfl,Or.inl E0.out,Below.refl _ _⟩
 | some ad=>
  have SR:=Lib.hid (A0.out.below AM.out).src
  obtain⟨n,hn⟩:∃n,n=L.length:=⟨_,rfl⟩
  rw[←hn]at SR hl ⊢
  have HN:=Lib.hid hn
  have q0:∀w:World,(binOp .eql 81 (.slice (some ad) n c) (.slice none 0 0)).run Tryz.prog w= .ok (.bool false) w:=fun _=>rfl
  clear h A0 hn
  go_enter Tryz.func77,Tryz.ntmps77
  go_wp2_with(first
   |(at_builtin;refine xu rfl (.tmp 5) (.tmp 6) 81 rfl w.heap.size 23 ii (.agg #[.int .i64 0, .int .i64 0, .bool false]) 3 24 Tryz.underlying81 hi hi0 hi1 hi2 rfl (by decide) _ 0 [] rfl OM.out _ n (arsV L) rfl SR.out (by rw[CZ,HN.out]) (XV L) (by unfold maxLen;omega) (by omega) (by simp) ?_;intro v5 w5 ho hg;have B5:Hid (Below w.heap.size w w5):=Lib.hid (below_grown AM.out hg (Nat.le_refl _) (fun g h=>(World.ownsRow.lt OM.out g h).1));rw[Nat.zero_add]at ho;obtain⟨a5,c5,rfl⟩:∃a c,v5= .slice a n c:=(Me ho);have OW:=Lib.hid ho;clear ho hg))
  go_ret
  exact⟨_,_,rfl,Or.inr OW.out,B5.out⟩
section
variable {W0 w:World} {I:lK} {q c:Nat} {Q:Nat→Nat} {V:Nat→Nat→Int} {Lb:List Nd} {G:Int→Option Pc} {D:Int→Option Sp}
set_option maxHeartbeats 1000000 in
theorem dR.aaS(h:dR W0 w I q c D Q V Lb G ig (PG G)){i:Int}(hf:dP G i=0){s:Pc}(hG:G i=some s):
  Calls Tryz.prog 33 #[.pointer (some ⟨I.ss,0,none⟩), .int .i64 i] w fun e w'=>∃a c,e= .returned (.slice a s.ar.length c)∧(s.ar=[]∨∃base,w.heap.size≤base∧w'.ownsRow base 23 3 (.slice a s.ar.length c) s.ar.length (arsV s.ar))∧Below w.heap.size w w':=by
 have HF:=Lib.hid (h.find i (p:=some s.blk) (by rw[hf,if_pos rfl,hG];rfl) hf)
 have CL:=Lib.hid (show ∀W,Below w.heap.size w W→_ from fun W hb=>aaR s.ar s.v W ((h.step hb).bl.area hG).1.at_ (by have:=((h.step hb).bl.area hG).2.few;omega))
 have C2:=Lib.hid (show ∀W,Below w.heap.size w W→W.cell? ⟨s.blk,2,none⟩=some s.v from fun W hb=>((h.step hb).bl.iK hG).2.2)
 obtain⟨av,cv,hv⟩:=(h.bl.area hG).1.form
 rw[hv]at CL C2
 obtain⟨n,hn⟩:∃n,n=s.ar.length:=⟨_,rfl⟩
 rw[←hn]at CL C2 ⊢
 clear h hG hf hv hn
 go_enter Tryz.func33,Tryz.ntmps33
 go_wp2_with fail
 refine HF.out.mono ?_
 rintro e w1 ⟨rfl,hb⟩
 have B1:=Lib.hid hb
 have c2:=C2.out w1 hb
 clear hb
 simp only[Aa]
 go_wp2_with fail
 refine(CL.out w1 B1.out).mono ?_
 rintro e w2 ⟨a2,cc2,rfl,ho,hb⟩
 have B2:=Lib.hid (B1.out.trans (hb.mono B1.out.size))
 have OW:=Lib.hid (ho.imp id fun ho=>(⟨_,B1.out.size,ho⟩:∃base,w.heap.size≤base∧w2.ownsRow base 23 3 (.slice a2 n cc2) n (arsV s.ar)))
 clear hb ho
 go_wp2
 go_ret
 exact⟨_,_,rfl,OW.out,B2.out⟩
end
end
section
section
variable {A:List Ar} {Lb:List Nd} {b:Nat→Bool} {i va:Int}
end
section
variable {W0 w:World} {I:lK} {q:Nat} {Lb:List Nd} {G:Int→Option Pc} {pr:Int→Nat→Bool} {rd:Int→Nat→Nat→Int}
end
end
section
section
variable {W0 w:World} {I:lK} {q:Nat} {Lb:List Nd} {G:Int→Option Pc} {pr:Int→Nat→Bool} {rd:Int→Nat→Nat→Int}
end
end
end Go.Proofs.YtammlljefhakmaaGreatDoor
