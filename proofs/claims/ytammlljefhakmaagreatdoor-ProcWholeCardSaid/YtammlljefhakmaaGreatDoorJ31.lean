/- The walk of ProcTurns. Condition: the listed tables read as laid. -/
import Derived.Test.YtammlljefhakmaaGreatDoorIO
import Derived.BigQuiet
import Derived.ChangeKeysEq
import Derived.Great.BuildSlice
namespace Go.Proofs.YtammlljefhakmaaGreatDoor
open Go.RowKit Go.Maps
set_option maxRecDepth 100000
theorem Ml(x:Nd)(w:World):(Op.equalIn 10000 76 (.agg #[.int .i64 x.1, .int .i64 x.2.1, .int .i64 x.2.2.1, .int .u32 x.2.2.2]) (.agg #[.int .i64 x.1, .int .i64 x.2.1, .int .i64 x.2.2.1, .int .u32 x.2.2.2])).run Tryz.prog w= .ok true w:=by
 rw[run_equalIn_struct w 9999 76 _ _ (by kernel_rfl) (by kernel_rfl)]
 simp[Program.fieldsOf,Tryz.underlying76,Op.eqFields,part,go_sem]
theorem Dv{w w':World}{base B k n:Nat}{e:TypeId}{v u:Value}{xs:List Value}{M:List Int}(h:w.ownsRow base e k v n xs)(hlow:∀g,v.ownBlock=some g→g<B)(hu:xZ w B u M)(hg:w.grownBy w' u.ownBlock):w'.ownsRow base e k v n xs:=by
 obtain⟨h1,h2⟩:=h
 rcases h2 with h2|⟨g,cap,cur,rfl,hb,hgg,r⟩
 ·exact⟨h1,Or.inl h2⟩
 ·refine⟨h1,Or.inr ⟨g,cap,cur,rfl,hb,(hg.block g (lt_of_block hgg) fun e=>?_).trans hgg,r⟩⟩
  have h3:=hlow g rfl
  rcases hu.2 with⟨rfl,_⟩|⟨g',cap',cur',rfl,hb',_⟩
  ·cases e
  ·have:g=g':=Option.some.inj e
   omega
section
variable {W0 w:World} {J:kY} {q c:Nat} {D:Int→Option Sp} {T:List Nd} {Qu:List Int} {Lb:List Nd} {G:Int→Option Pc} {rg:Int→Nat→Int}
theorem bY.aaG{w':World}{base:Nat}{v:Value}{K:List Int}(h:bY W0 w J q c D T Qu Lb G rg)(ho:xZ w base v K)(hb:W0.heap.size≤base)(hg:w.grownBy w' v.ownBlock):bY W0 w' J q c D T Qu Lb G rg:=by
 rcases ho.2 with⟨rfl,_⟩|⟨g,cap,cur,rfl,hb',hgg,_⟩
 ·exact h.step ⟨hg.os,hg.tape,hg.output,hg.size,fun k hk=>hg.block k hk (fun e=>by cases e)⟩
 ·exact h.own hgg (by decide) (Nat.le_trans hb hb') (Only.grown hg rfl)
theorem bY.I6{w':World}{base k n:Nat}{e:TypeId}{v:Value}{xs:List Value}(h:bY W0 w J q c D T Qu Lb G rg)(ho:w.ownsRow base e k v n xs)(he:e≠166)(t:Only w w' (fun k=>k=J.qb)):w'.ownsRow base e k v n xs:=by
 obtain⟨cs,hq⟩:=h.pc.uU.block
 obtain⟨h1,h2⟩:=ho
 rcases h2 with h2|⟨g,cap,cur,rfl,hb,hgg,r⟩
 ·exact⟨h1,Or.inl h2⟩
 ·refine⟨h1,Or.inr ⟨g,cap,cur,rfl,hb,t.kept hgg fun e'=>?_,r⟩⟩
  rw[e',hq]at hgg
  cases hgg
  exact he rfl
theorem I8{base:Nat}{v:Value}{L:List Nd}(h:w.ownsRow base 76 4 v L.length (mV L)):∃a cp,v= .slice a L.length cp∧(L=[]∨∃g,a=some ⟨g,0,none⟩∧g<w.heap.size∧∀V:World,Below w.heap.size w V→∀i,i<L.length→V.cell? ⟨g,i*4,none⟩=some (.int .i64 (L.getD i default).1)∧V.cell? ⟨g,i*4+1,none⟩=some (.int .i64 (L.getD i default).2.1)∧V.cell? ⟨g,i*4+2,none⟩=some (.int .i64 (L.getD i default).2.2.1)∧V.cell? ⟨g,i*4+3,none⟩=some (.int .u32 (L.getD i default).2.2.2)):=by
 have get:∀(L:List Nd) (i:Nat),i<L.length→(mV L)[i*4]? =some (.int .i64 (L.getD i default).1)∧(mV L)[i*4+1]? =some (.int .i64 (L.getD i default).2.1)∧(mV L)[i*4+2]? =some (.int .i64 (L.getD i default).2.2.1)∧(mV L)[i*4+3]? =some (.int .u32 (L.getD i default).2.2.2):=by
  intro L
  induction L with
  |nil=>intro i h;exact absurd h (by simp)
  | cons x r ih=>
   intro i h
   cases i with
   |zero=>simp[mV]
   |succ i=>
    have ih:=ih i (by simpa using h)
    have e:mV (x::r)=[.int .i64 x.1, .int .i64 x.2.1, .int .i64 x.2.2.1, .int .u32 x.2.2.2]++mV r:=by simp[mV]
    rw[e,show(i+1)*4=i*4+4 by omega]
    simpa[List.getElem?_append_right]using ih
 have h':=h
 rcases h.2 with⟨rfl,h0⟩|⟨g,cap,cur,rfl,hb,hgg,_⟩
 ·exact⟨none,0,by rw[h0],Or.inl (List.eq_nil_of_length_eq_zero h0)⟩
 ·refine⟨_,_,rfl,Or.inr ⟨g,rfl,lt_of_block hgg,fun V hV i hi=>?_⟩⟩
  obtain⟨a0,a1,a2,a3⟩:=get L i hi
  have b0:=h'.cells (g:=g) rfl _ _ a0
  have b1:=h'.cells (g:=g) rfl _ _ a1
  have b2:=h'.cells (g:=g) rfl _ _ a2
  have b3:=h'.cells (g:=g) rfl _ _ a3
  rw[Addr.add_mid,Nat.zero_add]at b0 b1 b2 b3
  have k:∀j,V.cell? ⟨g,j,none⟩=w.cell? ⟨g,j,none⟩:=fun j=>hV.cell (p:=⟨g,j,none⟩) (lt_of_block hgg)
  exact⟨(k _).trans b0,(k _).trans b1,(k _).trans b2,(k _).trans b3⟩
end
set_option maxHeartbeats 8000000 in
theorem Yf(q:Nat)(sl:Int)(v:Value)(S:List Op18)(W:World)(h1:1≤q)(h60:q≤60)(hs:1≤sl∧sl≤8)(hlen:S.length≤40)(hO:ArgOps18 W v S)(hL:LaidN W):Calls Tryz.prog 7 #[.agg #[.int .i64 (q:Int), .int .i64 sl],v] W fun e w'=>e= .returned (.bool true)∧Below W.heap.size W w':=by
 obtain⟨ii,hi,hi0,hi1,hi2⟩:=info_parts JJ
 have B1:=Lib.hid (Below.alloc (Below.refl W.heap.size W) (Nat.le_refl _) (pcO (q:Int) sl))
 have X1:=Lib.hid (heap_alloc_new W (pcO (q:Int) sl))
 have AW:=Lib.hid (fun V (hb:Below W.heap.size W V)=>hL.awake18 V hb)
 have FN:=Lib.hid (fun V=>fine18_ok (q:Int) sl V (fineB_iff.2 ⟨by omega,hs⟩))
 have MD:=Lib.hid (fun V (hb:Below W.heap.size W V)=>made18_ok q sl V h1 h60 hs (hL.lq.below hb) (hL.lw.below hb))
 obtain⟨a,cp,rfl,hwd,hO⟩:=hO
 have WD:=Lib.hid hwd
 have HO:=Lib.hid hO
 obtain⟨n,hn⟩:∃n,n=S.length:=⟨_,rfl⟩
 have HN:=Lib.hid hn
 have n40:n≤40:=by omega
 have d3:decide ((40:Int)<(n:Int))=false:=decide_eq_false (by omega)
 rw[←hn]
 clear hwd hO hlen hn hL h1 h60 hs
 go_enter Tryz.func7,Tryz.ntmps7
 go_wp2_with fail
 refine(FN.out _).mono ?_
 rintro e w2 ⟨rfl,hb⟩
 have B2:=Lib.hid (B1.out.trans (hb.mono B1.out.size))
 have X2:=Lib.hid (below_block hb X1.out)
 have q0:w2.cell? ⟨W.heap.size,0,none⟩=some (.int .i64 (q:Int)):=by rw[cell_of_row w2 _ 0 _ _ _ X2.out];rfl
 have q1:w2.cell? ⟨W.heap.size,1,none⟩=some (.int .i64 sl):=by rw[cell_of_row w2 _ 1 _ _ _ X2.out];rfl
 clear hb
 go_wp2_with fail
 refine(MD.out w2 B2.out).mono ?_
 rintro e w3 ⟨J,s,rfl,_,_,hp⟩
 have P3:=Lib.hid hp.any
 clear hp q0 q1
 go_wp2_with fail
 go_loopw [8] (fun s wr=>∃j:Nat,s= .int .i64 (j:Int)∧j≤n∧AnyP w2 wr J q) (fun s _=>(n-(intOf s).toNat))
 case atStart=>exact⟨0,rfl,Nat.zero_le _,P3.out⟩
 case round=>
  obtain⟨j,rfl,hj,hp⟩:=hrel
  have P4:=Lib.hid hp
  clear hp
  by_cases hlt:j<n
  ·obtain⟨b,o,rfl,hb1,hb2⟩:=HO.out.resolve_left (by intro e;have:=HN.out;rw[e]at this;simp at this;omega)
   have hmem:S.getD j default∈S:=by rw[List.getD_eq_getElem?_getD,List.getElem?_eq_getElem (by have:=HN.out;omega)];simp
   have DO:=Lib.hid (P4.out.does (S.getD j default) (WD.out _ hmem))
   obtain⟨c0,c1,c2,c3,c4,c5,c6,c7⟩:=(hb2 j (by have:=HN.out;omega)).below (B2.out.trans (P4.out.below.mono B2.out.size)) hb1
   generalize S.getD j default=x at DO c0 c1 c2 c3 c4 c5 c6 c7
   obtain⟨x0,x1,x2,x3,x4,x5,x6,x7⟩:=x
   simp only at c0 c1 c2 c3 c4 c5 c6 c7
   clear hb1 hb2 hmem
   go_wp2_with fail
   refine DO.out.mono ?_
   rintro e w5 ⟨rfl,_,hp⟩
   have P5:=Lib.hid hp
   clear hp c0 c1 c2 c3 c4 c5 c6 c7
   go_wp2_with fail
   go_roundw
   case rel=>exact⟨j+1,by go_num,by omega,P5.out⟩
   case measure=>simp[intOf];omega
  ·obtain rfl:j=n:=by omega
   obtain⟨c,D,T,Qu,Lb,G,rg,hp⟩:=P4.out
   have P5:=Lib.hid hp
   clear hp P4 P3 hlt hj HO WD
   go_wp2_with fail
   refine P5.out.row.mono ?_
   rintro e w6 ⟨vr,rfl,hor,hb⟩
   have P6:=Lib.hid (P5.out.step hb)
   obtain⟨ar,cr,rfl⟩:=fK hor
   have R6:=Lib.hid hor
   clear hor hb
   go_wp2_with fail
   refine P6.out.all.mono ?_
   rintro e w7 ⟨va,rfl,hoa,hb⟩
   have P7:=Lib.hid (P6.out.step hb)
   obtain⟨aa,ca,rfl⟩:=fK hoa
   have R7:=Lib.hid (aY (jf R6.out (Nat.le_trans B2.out.size P5.out.below.size)) hb)
   have A7:=Lib.hid (jf hoa (Nat.le_trans B2.out.size P6.out.below.size))
   obtain⟨B,hB⟩:∃B,B=w7.heap.size:=⟨_,rfl⟩
   have LR:Hid (∀g,(Value.slice ar Qu.length cr).ownBlock=some g→g<B):=Lib.hid fun g hg=>by rw[hB];exact(R7.out.lt g hg).2
   have LA:Hid (∀g,(Value.slice aa T.length ca).ownBlock=some g→g<B):=Lib.hid fun g hg=>by rw[hB];exact(A7.out.lt g hg).2
   have SB:Hid (w2.heap.size≤B∧B≤w7.heap.size):=Lib.hid ⟨by rw[hB];exact P7.out.below.size,by omega⟩
   have Q8:Hid (Qu.length≤8):=Lib.hid P7.out.pc.uU.good.length
   obtain⟨m,hm⟩:∃m,m=Qu.length:=⟨_,rfl⟩
   have HM:=Lib.hid hm
   have m8:m≤8:=by have:=Q8.out;omega
   rw[←hm]at R7 LR ⊢
   clear hoa hb hB R6 P6 hm
   go_wp2_with fail
   go_loopw [11,12] (fun l i wr=>∃k:Nat,i= .int .i64 (k:Int)∧k≤m∧bY w2 wr J q c D T (Qu.drop k++Qu.take k) Lb G rg∧xZ wr B l (Qu.take k)∧wr.ownsRow W.heap.size 3 1 (.slice ar m cr) m (iw Qu)∧wr.ownsRow W.heap.size 76 4 (.slice aa T.length ca) T.length (mV T)∧B≤wr.heap.size) (fun _ i _=>m-(intOf i).toNat)
   case atStart=>exact⟨0,rfl,Nat.zero_le _,by simpa using P7.out,World.ownsRow_nil _ _ _ _,R7.out,A7.out,SB.out.2⟩
   case round=>
    obtain⟨k,rfl,hk,hP,hH,hR,hA,hB⟩:=hrel
    have H8:=Lib.hid hH
    have R8:=Lib.hid hR
    have A8:=Lib.hid hA
    have S8:=Lib.hid hB
    clear hH hR hA hB
    by_cases hlt:k<m
    ·rw[ahM Qu k (by have:=HM.out;omega)]at hP
     have TS:=Bj Qu k (by have:=HM.out;omega)
     have htl:(Qu.take k).length≤8:=by rw[List.length_take];omega
     obtain⟨x,hx⟩:∃x,x=Qu.getD k 0:=⟨_,rfl⟩
     obtain⟨r,hr⟩:∃r,r=Qu.drop (k+1)++Qu.take k:=⟨_,rfl⟩
     rw[←hx]at hP TS
     rw[←hr]at hP
     have E:Hid (r++[x]=Qu.drop (k+1)++Qu.take (k+1)):=Lib.hid (by rw[hr,TS,List.append_assoc])
     have TS:=Lib.hid TS
     have P8:=Lib.hid hP
     clear hP hx hr
     go_wp2_with fail
     refine(show Calls Tryz.prog 13 #[.pointer (some ⟨J.ps,0,none⟩)] _ _ from P8.out.running).mono ?_
     rintro e w9 ⟨rfl,oI⟩
     have TV:=oI.trans (((Below.refl w9.heap.size w9).alloc (Nat.le_refl _) (.cells #[.int .i64 x] 3)).mono oI.size)
     have XV:=Lib.hid (P8.out.step TV)
     have H10:=Lib.hid (aY H8.out TV)
     have R10:=Lib.hid (aY R8.out TV)
     have A10:=Lib.hid (aY A8.out TV)
     have S10:Hid (B≤(w9.alloc (.cells #[.int .i64 x] 3)).heap.size):=Lib.hid (Nat.le_trans S8.out TV.size)
     clear oI TV
     go_wp2_with(at_builtin;refine wpList_append_own _ rfl (.tmp 63) (.tmp 65) 54 rfl B 3 ii (.int .i64 0) 1 8 Tryz.underlying54 hi hi0 hi1 hi2 rfl (by decide) _ (Qu.take k).length _ rfl H10.out ⟨w9.heap.size,0,none⟩ 1 1 [.int .i64 x] rfl rfl (OD w9 _ _) (by simp[Value.oneCell']) (by unfold maxLen;omega) (by omega) S10.out ?_;intro v4 w4 ho hg _;have Gx:=Lib.hid (XV.out.aaG H10.out SB.out.1 hg);have H11:Hid (xZ w4 B v4 (Qu.take (k+1))):=Lib.hid (by unfold xZ;rw[TS.out,wJ,List.length_append];exact ho);have R11:=Lib.hid (Dv R10.out LR.out H10.out hg);have A11:=Lib.hid (Dv A10.out LA.out H10.out hg);have S11:=Lib.hid (Nat.le_trans S10.out hg.size);clear ho hg)
     refine(show Calls Tryz.prog 15 #[.pointer (some ⟨J.ps,0,none⟩)] _ _ from Gx.out.ag2).mono ?_
     rintro e w5 ⟨rfl,hp,ho⟩
     have P12:Hid (bY w2 w5 J q c D T (Qu.drop (k+1)++Qu.take (k+1)) Lb G rg):=Lib.hid (by
      have hp:bY w2 w5 J q c D T (r++[x]) Lb G rg:=hp
      rwa [E.out]at hp)
     have H12:=Lib.hid (Gx.out.I6 H11.out (by decide) ho)
     have R12:=Lib.hid (Gx.out.I6 R11.out (by decide) ho)
     have A12:=Lib.hid (Gx.out.I6 A11.out (by decide) ho)
     have S12:=Lib.hid (Nat.le_trans S11.out ho.size)
     clear hp ho
     go_wp2
     go_roundw
     case rel=>exact⟨k+1,by go_num,by omega,P12.out,H12.out,R12.out,A12.out,S12.out⟩
     case measure=>simp[intOf];omega
    ·obtain rfl:k=m:=by omega
     rw[HM.out,List.drop_length,List.take_length,List.nil_append]at hP
     have P8:=Lib.hid hP
     have H8':=H8.out
     rw[HM.out,List.take_length]at H8'
     have H8:=Lib.hid H8'
     obtain⟨t,ht⟩:∃t,t=T.length:=⟨_,rfl⟩
     have HT:=Lib.hid ht
     have TB:Hid (t≤8):=Lib.hid (by have h1:=P8.out.pc.good.len;have h2:=P8.out.pc.good.most;omega)
     have t8:=TB.out
     clear hP H8' P7 A7 R7 ht
     go_wp2_with fail
     refine(show Calls Tryz.prog 20 #[.pointer (some ⟨J.ps,0,none⟩)] _ _ from P8.out.all).mono ?_
     rintro e w9 ⟨vn,rfl,hon,hb⟩
     have P9:=Lib.hid (P8.out.step hb)
     have H9:=Lib.hid (aY H8.out hb)
     have R9:=Lib.hid (aY R8.out hb)
     obtain⟨an,cn,rfl,hn⟩:=I8 hon
     obtain⟨aa',ca',ea,ha⟩:=I8 (aY A8.out hb)
     cases ea
     have NC:=Lib.hid hn
     have AC:=Lib.hid ha
     rw[←HT.out]
     clear hon hb hn ha A8 H8 R8 P8 LA
     go_wp2_with fail
     go_loopw [16] (fun i wr=>∃k:Nat,i= .int .i64 (k:Int)∧k≤t∧Below w9.heap.size w9 wr) (fun i _=>t-(intOf i).toNat)
     case atStart=>exact⟨0,rfl,Nat.zero_le _,Below.refl _ _⟩
     case round=>
      obtain⟨i,rfl,hi',hB⟩:=hrel
      have B10:=Lib.hid hB
      clear hB
      by_cases hlt:i<t
      ·obtain⟨g1,rfl,_,hc1⟩:=NC.out.resolve_left (by intro e;have:=HT.out;rw[e]at this;simp at this;omega)
       obtain⟨g2,rfl,_,hc2⟩:=AC.out.resolve_left (by intro e;have:=HT.out;rw[e]at this;simp at this;omega)
       obtain⟨a0,a1,a2,a3⟩:=hc1 _ B10.out i (by have:=HT.out;omega)
       obtain⟨b0,b1,b2,b3⟩:=hc2 _ B10.out i (by have:=HT.out;omega)
       generalize T.getD i default=x at a0 a1 a2 a3 b0 b1 b2 b3
       have heq:=Ml x
       obtain⟨x0,x1,x2,x3⟩:=x
       simp only at a0 a1 a2 a3 b0 b1 b2 b3 heq
       have hg:∀(x y:Operand) (xs ys:Array Value) (w:World),(eqGuard .neq 76 x y (.agg xs) (.agg ys)).run Tryz.prog w= .ok () w:=fun x y xs ys w=>run_eqGuard_agg w .neq _ x y xs ys (by kernel_rfl)
       have et:((t:Int)==(t:Int))=true:=by simp
       have en:((t:Int) !=(t:Int))=false:=by simp
       have i0:(0:Int)≤(i:Int):=by omega
       have i1:(i:Int)<(t:Int):=by omega
       clear hc1 hc2
       go_wp2_with fail
       go_quiet (fail)
       go_wp2
       go_roundw
       case rel=>exact⟨i+1,by go_num,by omega,below_drewN B10.out _⟩
       case measure=>simp[intOf];omega
      ·obtain rfl:i=t:=by omega
       have XV:=Lib.hid (P9.out.step B10.out)
       have H10:=Lib.hid (uN (aY H9.out B10.out) P9.out.fit.low)
       have R10:Hid (Du _ (Value.slice ar k cr) (qy Qu)):=Lib.hid (uN (base:=W.heap.size) (by have h:=aY R9.out B10.out;unfold xZ;rw[←HM.out];exact h) P9.out.fit.low)
       have N8:Hid ((qy Qu).length≤2000):=Lib.hid (by rw[List.length_map,←HM.out];omega)
       clear P9 H9 R9 NC AC
       go_wp2_with fail
       refine(Mk (qy Qu) _ _ _ H10.out R10.out N8.out).mono ?_
       rintro e w11 ⟨rfl,hb⟩
       have Gx:=Lib.hid (XV.out.step hb)
       have R11:=Lib.hid (R10.out.below hb)
       clear hb
       go_wp2_with fail
       refine Gx.out.row.mono ?_
       rintro e w12 ⟨vq,rfl,hq,hb⟩
       have P12:=Lib.hid (Gx.out.step hb)
       have R12:=Lib.hid (R11.out.below hb)
       have Q12:=Lib.hid (uN hq Gx.out.fit.low)
       clear hq hb
       go_wp2_with fail
       refine(Mk (qy Qu) _ _ _ Q12.out R12.out N8.out).mono ?_
       rintro e w13 ⟨rfl,hb⟩
       have Ue:=Lib.hid (B2.out.trans ((P12.out.step hb).below.mono B2.out.size))
       clear hb
       go_wp2_with fail
       refine(AW.out w13 Ue.out).mono ?_
       rintro e w14 ⟨rfl,hb⟩
       have B14:=Lib.hid (Ue.out.trans (hb.mono Ue.out.size))
       clear hb
       go_wp2_with fail
       go_ret
       exact⟨rfl,B14.out⟩
theorem Dw(q sl:Int)(v:Value)(S:List Op18)(W:World)(_:I64 q∧I64 sl)(hO:ArgOps18 W v S)(hL:LaidN W):Calls Tryz.prog 7 #[.agg #[.int .i64 q, .int .i64 sl],v] W fun e w'=>e= .returned (.bool true)∧Below W.heap.size W w':=by
 by_cases h:fineB q sl=true∧S.length≤40
 ·have h5:=fineB_iff.1 h.1
  obtain⟨n,rfl⟩:∃n:Nat,q=(n:Int):=⟨q.toNat,by omega⟩
  exact Yf n sl v S W (by omega) (by omega) h5.2 h.2 hO hL
 ·obtain⟨a,cp,rfl,_⟩:=hO
  refine TQ q sl a _ cp W ?_ hL
  cases hf:fineB q sl with
  |false=>exact Or.inl rfl
  |true=>
   have h9:¬S.length≤40:=fun h2=>h ⟨hf,h2⟩
   exact Or.inr ⟨rfl,by omega⟩
end Go.Proofs.YtammlljefhakmaaGreatDoor
