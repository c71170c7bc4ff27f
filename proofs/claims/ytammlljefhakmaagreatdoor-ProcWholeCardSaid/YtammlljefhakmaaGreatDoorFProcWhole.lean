/- The law ProcWhole returns true for every input, and its arguments read behind the call as they read before. Conditions: none beyond the row's own: the masks and the library's two tables start as the text lays them, which the card ties. -/
import Derived.Test.YtammlljefhakmaaGreatDoorJ31
import Derived.Test.YtammlljefhakmaaGreatDoorOP
import Derived.Test.YtammlljefhakmaaGreatDoorTie
import Derived.Test.YtammlljefhakmaaGreatDoorCards
import Derived.SevenTiedAt
namespace Go.Proofs.YtammlljefhakmaaGreatDoor
open Go.RowKit Go.Maps
set_option maxRecDepth 100000
theorem ak.TY{w w':World}(h:ak w w'){base k n:Nat}{e:TypeId}{v:Value}{xs:List Value}(ho:w.ownsRow base e k v n xs)(ht:vS e):w'.ownsRow base e k v n xs:=by
 obtain⟨h1,h2⟩:=ho
 rcases h2 with h2|⟨g,cap,cur,rfl,hb,hg,r⟩
 ·exact⟨h1,Or.inl h2⟩
 ·exact⟨h1,Or.inr ⟨g,cap,cur,rfl,hb,h.box hg ht,r⟩⟩
theorem zi{wr w7 w8:World}{g t k:Nat}{ca:Nat}{L:List Value}{x y:Value}(hk:ak w7 w8)(h:wr.ownsRow 0 76 4 (.slice (some ⟨g,0,none⟩) t ca) t L)(hb:Below wr.heap.size wr w7)(hc:wr.cell? ⟨g,k*4,none⟩=some x∧wr.cell? ⟨g,k*4+2,none⟩=some y):w8.cell? ⟨g,k*4,none⟩=some x∧w8.cell? ⟨g,k*4+2,none⟩=some y:=by
 rcases h.2 with⟨h1,_⟩|⟨g',cap,cur,h1,_,hg,_⟩
 ·cases h1
 ·cases h1
  have h8:=hk.box (below_block hb hg) (by decide)
  have e:∀j,w8.cell? ⟨g,j,none⟩=wr.cell? ⟨g,j,none⟩:=fun j=>by rw[cell_of_row w8 g j _ _ _ h8,cell_of_row wr g j _ _ _ hg]
  exact⟨(e _).trans hc.1,(e _).trans hc.2⟩
def zY(T:List Nd):Nat:=(T.filter fun x=>decide (x.2.2.1=1)).length
theorem Ua(T:List Nd)(x:Nd):zY (T++[x])=zY T+if x.2.2.1=1 then 1 else 0:=by
 unfold zY
 rw[List.filter_append,List.length_append]
 congr 1
 by_cases h:x.2.2.1=1<;>simp[h]
theorem jM.count{n:Int}{T:List Nd}{Qu:List Int}{Lb:List Nd}{G:Int→Option Pc}(h:jM n T Qu Lb G)(hq:Qu.Nodup):zY T=Qu.length:=by
 have hn:((T.filter fun x=>decide (x.2.2.1=1)).map (·.1)).Nodup:=by
  have h1:(T.filter fun x=>decide (x.2.2.1=1)).Pairwise (fun a b=>a.1<b.1):=h.good.up.sublist List.filter_sublist
  exact List.pairwise_map.2 (h1.imp fun hlt=>by omega)
 have hp:((T.filter fun x=>decide (x.2.2.1=1)).map (·.1)).Perm Qu:=(List.perm_ext_iff_of_nodup hn hq).2 fun i=>by
  rw[h.row i]
  constructor
  ·intro hi
   obtain⟨x,hx,rfl⟩:=List.mem_map.1 hi
   obtain⟨hx,hs⟩:=List.mem_filter.1 hx
   rw[j4 (dO h.good.up hx)]
   simpa using hs
  ·intro hi
   obtain⟨x,hx,hs,_⟩:=h.good.st (i:=i) (by rw[hi];decide)
   have:=aj hx
   exact List.mem_map.2 ⟨x,List.mem_filter.2 ⟨this.1,by rw[←hs,hi];rfl⟩,this.2⟩
 unfold zY
 rw[←hp.length_eq,List.length_map]
theorem Ub{L:List Int}(h:∀x∈L,0≤x){p:Int}(hp:0≤p):Yk (qy L) p=decide (p∈L):=by
 unfold Yk
 rw[decide_eq_true hp,Bool.true_and]
 congr 1
 refine propext ⟨fun hm=>?_,fun hm=>List.mem_map.2 ⟨p,hm,rfl⟩⟩
 obtain⟨x,hx,he⟩:=List.mem_map.1 hm
 have:=h x hx
 have:x=p:=by omega
 rwa [←this]
theorem jM.tells{n:Int}{T:List Nd}{Qu:List Int}{Lb:List Nd}{G:Int→Option Pc}(h:jM n T Qu Lb G){x:Nd}(hx:x∈T):(1≤x.1∧x.1≤8)∧((x.2.2.1=1∧Yk (qy Qu) x.1=true∧(G x.1).isSome=true)∨(x.2.2.1=2∧Yk (qy Qu) x.1=false∧(G x.1).isSome=true)∨(x.2.2.1=3∧Yk (qy Qu) x.1=false∧(G x.1).isSome=false)):=by
 have hat:=dO h.good.up hx
 have h1:=(h.good.at_ hat).1
 have h2:=h.good.most
 have h3:=(h.good.at_ hat).2.2.2.2.1
 have hs:=j4 hat
 have hr:=h.row x.1
 have hg:=h.jo x.1
 rw[Ub h.low (by omega)]
 unfold gD at hg
 rw[hs]at hr hg
 refine⟨by omega,?_⟩
 rcases(show x.2.2.1=1∨x.2.2.1=2∨x.2.2.1=3 by omega)with e|e|e
 ·exact Or.inl ⟨e,decide_eq_true (hr.2 e),hg.2 (Or.inl e)⟩
 ·exact Or.inr (Or.inl ⟨e,decide_eq_false (fun hm=>by have:=hr.1 hm;omega),hg.2 (Or.inr e)⟩)
 ·refine Or.inr (Or.inr ⟨e,decide_eq_false (fun hm=>by have:=hr.1 hm;omega),?_⟩)
  cases hx:(G x.1).isSome with
  |false=>rfl
  |true=>have:=hg.1 hx;omega
set_option maxHeartbeats 8000000 in
theorem Yg(q:Nat)(sl:Int)(v:Value)(S:List Op18)(W:World)(h1:1≤q)(h60:q≤60)(hs:1≤sl∧sl≤8)(hlen:S.length≤60)(hO:ArgOps18 W v S)(hL:LaidN W):Calls Tryz.prog 4 #[.agg #[.int .i64 (q:Int), .int .i64 sl],v] W fun e w'=>e= .returned (.bool true)∧Below W.heap.size W w':=by
 have B1:=Lib.hid (Below.alloc (Below.refl W.heap.size W) (Nat.le_refl _) (pcO (q:Int) sl))
 have X1:=Lib.hid (heap_alloc_new W (pcO (q:Int) sl))
 have AW:=Lib.hid (fun V (hb:Below W.heap.size W V)=>hL.awake18 V hb)
 have FN:=Lib.hid (fun V=>fine18_ok (q:Int) sl V (fineB_iff.2 ⟨by omega,hs⟩))
 have MD:=Lib.hid (fun V (hb:Below W.heap.size W V)=>made18_ok q sl V h1 h60 hs (hL.lq.below hb) (hL.lw.below hb))
 obtain⟨a,cp,rfl,hwd,hO⟩:=hO
 have WD:=Lib.hid hwd
 have HO:=Lib.hid hO
 obtain⟨n,hn⟩:∃n,n=S.length:=⟨_,rfl⟩
 have HN:=Lib.hid hn
 have n60:n≤60:=by omega
 have d3:decide ((60:Int)<(n:Int))=false:=decide_eq_false (by omega)
 rw[←hn]
 clear hwd hO hlen hn hL h1 h60 hs
 go_enter Tryz.func4,Tryz.ntmps4
 go_wp2_with fail
 refine(FN.out _).mono ?_
 rintro e w2 ⟨rfl,hb⟩
 have B2:=Lib.hid (B1.out.trans (hb.mono B1.out.size))
 have X2:=Lib.hid (below_block hb X1.out)
 have q0:w2.cell? ⟨W.heap.size,0,none⟩=some (.int .i64 (q:Int)):=by rw[cell_of_row w2 _ 0 _ _ _ X2.out];rfl
 have q1:w2.cell? ⟨W.heap.size,1,none⟩=some (.int .i64 sl):=by rw[cell_of_row w2 _ 1 _ _ _ X2.out];rfl
 clear hb
 go_wp2_with fail
 refine(MD.out w2 B2.out).mono ?_
 rintro e w3 ⟨J,s,rfl,_,_,hp⟩
 have P3:=Lib.hid hp.any
 clear hp q0 q1
 go_wp2_with fail
 go_loopw [8] (fun s wr=>∃j:Nat,s= .int .i64 (j:Int)∧j≤n∧AnyP w2 wr J q) (fun s _=>(n-(intOf s).toNat))
 case atStart=>exact⟨0,rfl,Nat.zero_le _,P3.out⟩
 case round=>
  obtain⟨j,rfl,hj,hp⟩:=hrel
  have P4:=Lib.hid hp
  clear hp
  by_cases hlt:j<n
  ·obtain⟨b,o,rfl,hb1,hb2⟩:=HO.out.resolve_left (by intro e;have:=HN.out;rw[e]at this;simp at this;omega)
   have hmem:S.getD j default∈S:=by rw[List.getD_eq_getElem?_getD,List.getElem?_eq_getElem (by have:=HN.out;omega)];simp
   have DO:=Lib.hid (P4.out.does (S.getD j default) (WD.out _ hmem))
   obtain⟨c0,c1,c2,c3,c4,c5,c6,c7⟩:=(hb2 j (by have:=HN.out;omega)).below (B2.out.trans (P4.out.below.mono B2.out.size)) hb1
   generalize S.getD j default=x at DO c0 c1 c2 c3 c4 c5 c6 c7
   obtain⟨x0,x1,x2,x3,x4,x5,x6,x7⟩:=x
   simp only at c0 c1 c2 c3 c4 c5 c6 c7
   clear hb1 hb2 hmem
   go_wp2_with fail
   refine DO.out.mono ?_
   rintro e w5 ⟨rfl,_,hp⟩
   have P5:=Lib.hid hp
   clear hp c0 c1 c2 c3 c4 c5 c6 c7 DO
   obtain⟨c,D,T,Qu,Lb,G,rg,hp⟩:=P5.out
   have P5:=Lib.hid hp
   clear hp
   go_wp2_with fail
   refine P5.out.all.mono ?_
   rintro e w6 ⟨va,rfl,hoa,hb⟩
   have P6:=Lib.hid (P5.out.step hb)
   obtain⟨aa,ca,rfl⟩:=fK hoa
   have A6:=Lib.hid hoa
   clear hoa hb
   go_wp2_with fail
   refine P6.out.row.mono ?_
   rintro e w7 ⟨vr,rfl,hor,hb⟩
   have P7:=Lib.hid (P6.out.step hb)
   obtain⟨ar,cr,rfl⟩:=fK hor
   have A7:=Lib.hid (jf (aY A6.out hb) (Nat.zero_le _))
   have R7:=Lib.hid (jf hor (Nat.zero_le _))
   have LO:=Lib.hid P7.out.fit.low
   have N8:Hid ((qy Qu).length≤2000):=Lib.hid (by have:=P7.out.pc.uU.good.length;rw[List.length_map];omega)
   have T8:Hid (1≤T.length∧T.length≤8):=Lib.hid (by
    have h1:=P7.out.pc.good.len
    have h2:=P7.out.pc.good.most
    obtain⟨x,hx,_⟩:=P7.out.fit.wh.first
    have h3:=List.length_pos_of_mem (aj hx).1
    omega)
   have CT:Hid (zY T=Qu.length):=Lib.hid (P7.out.fit.count P7.out.pc.uU.good.once)
   obtain⟨m,hm⟩:∃m,m=Qu.length:=⟨_,rfl⟩
   have HM:=Lib.hid hm
   obtain⟨t,ht⟩:∃t,t=T.length:=⟨_,rfl⟩
   have HT:=Lib.hid ht
   have t1:1≤t:=by have:=T8.out;omega
   have t8:t≤8:=by have:=T8.out;omega
   rw[←hm]at R7 ⊢
   rw[←ht]at A7 ⊢
   clear hor hb hm ht P6 A6
   go_wp2_with fail
   go_loopw [11,12] (fun r i wr=>∃k:Nat,i= .int .i64 (k:Int)∧k≤t∧r= .int .i64 (zY (T.take k):Int)∧bY w2 wr J q c D T Qu Lb G rg∧wr.ownsRow 0 3 1 (.slice ar m cr) m (iw Qu)∧wr.ownsRow 0 76 4 (.slice aa t ca) t (mV T)) (fun _ i _=>t-(intOf i).toNat)
   case atStart=>exact⟨0,rfl,Nat.zero_le _,rfl,P7.out,R7.out,A7.out⟩
   case round=>
    obtain⟨k,rfl,hk,rfl,hP,hR,hA⟩:=hrel
    have P8:=Lib.hid hP
    have R8:=Lib.hid hR
    have A8:=Lib.hid hA
    clear hP hR hA
    have hcn:zY (T.take k)≤k:=Nat.le_trans (List.length_filter_le _ _) (by rw[List.length_take];omega)
    by_cases hlt:k<t
    ·obtain⟨aa',ca',ea,ha⟩:=I8 (base:=0) (L:=T) (by have h:=A8.out;rw[HT.out]at h;exact h)
     have hmem:T.getD k default∈T:=by rw[List.getD_eq_getElem?_getD,List.getElem?_eq_getElem (by have:=HT.out;omega)];simp
     obtain⟨aaH,hx⟩:=P8.out.fit.tells hmem
     have TK:Hid (zY (T.take (k+1))=zY (T.take k)+if(T.getD k default).2.2.1=1 then 1 else 0):=Lib.hid (by
      rw[←Ua]
      congr 1
      rw[List.take_add_one,List.getD_eq_getElem?_getD,List.getElem?_eq_getElem (show k<T.length by have:=HT.out;omega)]
      rfl)
     obtain⟨g,ea',_,hc⟩:=ha.resolve_left (by intro e;have:=HT.out;rw[e]at this;simp at this;omega)
     subst ea'
     cases ea
     have AC:=Lib.hid (fun V (hV:Below _ _ V)=>hc V hV k (by have:=HT.out;omega))
     have LF:=Lib.hid (fun V (hb:Below _ _ V)=>(P8.out.step hb).aaw aaH)
     have SP:=Lib.hid (fun V (hb:Below _ _ V)=>(P8.out.step hb).spaces)
     generalize T.getD k default=x at aaH hx TK AC LF
     obtain⟨r0,hr0⟩:∃r0,r0=zY (T.take k):=⟨_,rfl⟩
     rw[←hr0]at hcn TK ⊢
     obtain⟨x0,x1,x2,x3⟩:=x
     simp only at aaH hx
     obtain⟨a0,a1,a2,a3⟩:=AC.out wr (Below.refl _ _)
     simp only at a0 a1 a2 a3
     have HAS:=Lib.hid (fun mm=>(aaF (qy Qu) (.slice ar m cr) x0 (wr.drewN mm) ((uN (base:=0) (v:= .slice ar m cr) (by have h:=R8.out;unfold xZ;rw[←HM.out];exact h) LO.out).below (below_drewN (Below.refl _ _) mm)) N8.out).mono fun _ _ h=>And.intro h.1 h.2.symm)
     have i0:(0:Int)≤(k:Int):=by omega
     have i1:(k:Int)<(t:Int):=by omega
     have SP:Hid (∀V,Below wr.heap.size wr V→Calls Tryz.prog 23 #[.pointer (some ⟨J.ps,0,none⟩)] V fun e w'=>e= .returned (.pointer (some ⟨J.I.ss,0,none⟩))∧Below V.heap.size V w'):=SP
     have AC:Hid (∀V,Below wr.heap.size wr V→V.cell? ⟨g,k*4,none⟩=some (.int .i64 x0)∧V.cell? ⟨g,k*4+2,none⟩=some (.int .i64 x2)):=Lib.hid fun V hV=>⟨(AC.out V hV).1,(AC.out V hV).2.2.1⟩
     clear hmem hc aaH hr0
     rcases hx with⟨rfl,hin,hG⟩|⟨rfl,hin,hG⟩|⟨rfl,hin,hG⟩
     ·rw[hin]at HAS
      have LF:Hid (∀V,Below wr.heap.size wr V→Calls Tryz.prog 32 #[.pointer (some ⟨J.I.ss,0,none⟩), .int .i64 x0, .int .u32 32768] V fun e w'=>(∃v,e= .returned (.tuple #[.int .u32 v, .int .i64 7]))∧ak V w'∧bY w2 w' J q c D T Qu Lb G rg):=Lib.hid fun V hb=>(LF.out V hb).mono fun e w' ⟨⟨v,h1⟩,h2⟩=>⟨⟨v,by rw[h1];dsimp only;rw[hG];rfl⟩,h2⟩
      clear hin hG
      go_wp2_with fail
      go_quiet ((go_at_call 31;exact Calls.quiet_of_same (HAS.out _)))
      go_wp2_with fail
      obtain⟨w6,I9⟩:∃w6,w6=wr.drewN nq:=⟨_,rfl⟩
      have B6:Hid (Below wr.heap.size wr w6):=Lib.hid (by rw[I9];exact below_drewN (Below.refl _ _) nq)
      rw[←I9]
      clear I9 HAS a0 a1 a2 a3
      obtain⟨a0,a2⟩:=AC.out w6 B6.out
      go_region_held3 (fun V=>V.cell? ⟨g,k*4,none⟩=some (.int .i64 x0)) (first
        |with_reducible exact C8.out.1
        |with_reducible exact(AC.out w7 (B6.out.trans (B7.out.mono B6.out.size))).1
        |with_reducible exact(AC.out _ B6.out.drew).1)
       (first
        |((go_at_call 23;with_reducible refine(SP.out _ B6.out.drew).mono ?_);rintro e w7 ⟨rfl,hb⟩;have B7:Hid (Below w6.heap.size w6 w7):=Lib.hid ((Below.refl _ _).drew.trans hb);clear hb)
        |((go_at_call 32;with_reducible refine(LF.out w7 (B6.out.trans (B7.out.mono B6.out.size))).mono ?_);rintro e w8 ⟨⟨lv,rfl⟩,hk,hp⟩;have P9:=Lib.hid hp;have R9:=Lib.hid (hk.TY (aY R8.out (B6.out.trans (B7.out.mono B6.out.size))) (by decide));have A9:=Lib.hid (hk.TY (aY A8.out (B6.out.trans (B7.out.mono B6.out.size))) (by decide));have C8:Hid (w8.cell? ⟨g,k*4,none⟩=some (.int .i64 x0)∧w8.cell? ⟨g,k*4+2,none⟩=some (.int .i64 1)):=Lib.hid (zi hk A8.out (B6.out.trans (B7.out.mono B6.out.size)) (AC.out _ (Below.refl _ _)));clear hk hp))
      all_goals
       obtain⟨-,c2⟩:=C8.out
       go_wp2_with fail
       go_roundw
       case rel=>exact⟨k+1,by go_num,by omega,by rw[TK.out];go_num,P9.out,R9.out,A9.out⟩
       case measure=>simp[intOf];omega
     ·rw[hin]at HAS
      have LF:Hid (∀V,Below wr.heap.size wr V→Calls Tryz.prog 32 #[.pointer (some ⟨J.I.ss,0,none⟩), .int .i64 x0, .int .u32 32768] V fun e w'=>(∃v,e= .returned (.tuple #[.int .u32 v, .int .i64 7]))∧ak V w'∧bY w2 w' J q c D T Qu Lb G rg):=Lib.hid fun V hb=>(LF.out V hb).mono fun e w' ⟨⟨v,h1⟩,h2⟩=>⟨⟨v,by rw[h1];dsimp only;rw[hG];rfl⟩,h2⟩
      clear hin hG
      go_wp2_with fail
      go_quiet ((go_at_call 31;exact Calls.quiet_of_same (HAS.out _)))
      go_wp2_with fail
      obtain⟨w6,I9⟩:∃w6,w6=wr.drewN nq:=⟨_,rfl⟩
      have B6:Hid (Below wr.heap.size wr w6):=Lib.hid (by rw[I9];exact below_drewN (Below.refl _ _) nq)
      rw[←I9]
      clear I9 HAS a0 a1 a2 a3
      obtain⟨a0,a2⟩:=AC.out w6 B6.out
      go_region_held3 (fun V=>V.cell? ⟨g,k*4,none⟩=some (.int .i64 x0)) (first
        |with_reducible exact C8.out.1
        |with_reducible exact(AC.out w7 (B6.out.trans (B7.out.mono B6.out.size))).1
        |with_reducible exact(AC.out _ B6.out.drew).1)
       (first
        |((go_at_call 23;with_reducible refine(SP.out _ B6.out.drew).mono ?_);rintro e w7 ⟨rfl,hb⟩;have B7:Hid (Below w6.heap.size w6 w7):=Lib.hid ((Below.refl _ _).drew.trans hb);clear hb)
        |((go_at_call 32;with_reducible refine(LF.out w7 (B6.out.trans (B7.out.mono B6.out.size))).mono ?_);rintro e w8 ⟨⟨lv,rfl⟩,hk,hp⟩;have P9:=Lib.hid hp;have R9:=Lib.hid (hk.TY (aY R8.out (B6.out.trans (B7.out.mono B6.out.size))) (by decide));have A9:=Lib.hid (hk.TY (aY A8.out (B6.out.trans (B7.out.mono B6.out.size))) (by decide));have C8:Hid (w8.cell? ⟨g,k*4,none⟩=some (.int .i64 x0)∧w8.cell? ⟨g,k*4+2,none⟩=some (.int .i64 2)):=Lib.hid (zi hk A8.out (B6.out.trans (B7.out.mono B6.out.size)) (AC.out _ (Below.refl _ _)));clear hk hp))
      all_goals
       obtain⟨-,c2⟩:=C8.out
       go_wp2_with fail
       go_roundw
       case rel=>exact⟨k+1,by go_num,by omega,by rw[TK.out];rfl,P9.out,R9.out,A9.out⟩
       case measure=>simp[intOf];omega
     ·rw[hin]at HAS
      have LF:Hid (∀V,Below wr.heap.size wr V→Calls Tryz.prog 32 #[.pointer (some ⟨J.I.ss,0,none⟩), .int .i64 x0, .int .u32 32768] V fun e w'=>(∃v,e= .returned (.tuple #[.int .u32 v, .int .i64 4]))∧ak V w'∧bY w2 w' J q c D T Qu Lb G rg):=Lib.hid fun V hb=>(LF.out V hb).mono fun e w' ⟨⟨v,h1⟩,h2⟩=>⟨⟨v,by rw[h1];dsimp only;rw[hG];rfl⟩,h2⟩
      clear hin hG
      go_wp2_with fail
      go_quiet ((go_at_call 31;exact Calls.quiet_of_same (HAS.out _)))
      go_wp2_with fail
      obtain⟨w6,I9⟩:∃w6,w6=wr.drewN nq:=⟨_,rfl⟩
      have B6:Hid (Below wr.heap.size wr w6):=Lib.hid (by rw[I9];exact below_drewN (Below.refl _ _) nq)
      rw[←I9]
      clear I9 HAS a0 a1 a2 a3
      obtain⟨a0,a2⟩:=AC.out w6 B6.out
      go_region_held3 (fun V=>V.cell? ⟨g,k*4,none⟩=some (.int .i64 x0)) (first
        |with_reducible exact C8.out.1
        |with_reducible exact(AC.out w7 (B6.out.trans (B7.out.mono B6.out.size))).1
        |with_reducible exact(AC.out _ B6.out.drew).1)
       (first
        |((go_at_call 23;with_reducible refine(SP.out _ B6.out.drew).mono ?_);rintro e w7 ⟨rfl,hb⟩;have B7:Hid (Below w6.heap.size w6 w7):=Lib.hid ((Below.refl _ _).drew.trans hb);clear hb)
        |((go_at_call 32;with_reducible refine(LF.out w7 (B6.out.trans (B7.out.mono B6.out.size))).mono ?_);rintro e w8 ⟨⟨lv,rfl⟩,hk,hp⟩;have P9:=Lib.hid hp;have R9:=Lib.hid (hk.TY (aY R8.out (B6.out.trans (B7.out.mono B6.out.size))) (by decide));have A9:=Lib.hid (hk.TY (aY A8.out (B6.out.trans (B7.out.mono B6.out.size))) (by decide));have C8:Hid (w8.cell? ⟨g,k*4,none⟩=some (.int .i64 x0)∧w8.cell? ⟨g,k*4+2,none⟩=some (.int .i64 3)):=Lib.hid (zi hk A8.out (B6.out.trans (B7.out.mono B6.out.size)) (AC.out _ (Below.refl _ _)));clear hk hp))
      all_goals
       obtain⟨-,c2⟩:=C8.out
       go_wp2_with fail
       go_roundw
       case rel=>exact⟨k+1,by go_num,by omega,by rw[TK.out];rfl,P9.out,R9.out,A9.out⟩
       case measure=>simp[intOf];omega
    ·obtain rfl:k=t:=by omega
     have ek:zY (T.take k)=m:=by rw[HT.out,List.take_length,HM.out];exact CT.out
     rw[ek]
     have em:((m:Int) !=(m:Int))=false:=by simp
     have e1:decide ((k:Int)<1)=false:=decide_eq_false (by omega)
     clear hcn ek hlt
     go_wp2_with fail
     go_roundw
     case rel=>exact⟨j+1,by go_num,by omega,P8.out.any⟩
     case measure=>simp[intOf];omega
  ·obtain rfl:j=n:=by omega
   have BW:=Lib.hid (B2.out.trans (P4.out.below.mono B2.out.size))
   go_wp2_with fail
   refine(AW.out wr BW.out).mono ?_
   rintro e w5 ⟨rfl,hb⟩
   have B5:=Lib.hid (BW.out.trans (hb.mono BW.out.size))
   clear hb
   go_wp2_with fail
   go_ret
   exact⟨rfl,B5.out⟩
theorem Dx(q sl:Int)(v:Value)(S:List Op18)(W:World)(_:I64 q∧I64 sl)(hO:ArgOps18 W v S)(hL:LaidN W):Calls Tryz.prog 4 #[.agg #[.int .i64 q, .int .i64 sl],v] W fun e w'=>e= .returned (.bool true)∧Below W.heap.size W w':=by
 by_cases h:fineB q sl=true∧S.length≤60
 ·have h5:=fineB_iff.1 h.1
  obtain⟨n,rfl⟩:∃n:Nat,q=(n:Int):=⟨q.toNat,by omega⟩
  exact Yg n sl v S W (by omega) (by omega) h5.2 h.2 hO hL
 ·obtain⟨a,cp,rfl,_⟩:=hO
  refine TU q sl a _ cp W ?_ hL
  cases hf:fineB q sl with
  |false=>exact Or.inl rfl
  |true=>
   have h9:¬S.length≤60:=fun h2=>h ⟨hf,h2⟩
   exact Or.inr ⟨rfl,by omega⟩
end Go.Proofs.YtammlljefhakmaaGreatDoor
namespace Go.Proofs.YtammlljefhakmaaGreatDoor
open Go.ChangeShapes Go.WideShapes Go.ChangeAt Go.RowKit Go.Joins
set_option maxRecDepth 100000
theorem zk(os:Os)(started:os.Started)(H:Type)(enc:TypeId×Value→H):
  ReturnsInHanded {} Tryz.checked os 4 .any (fun w args=>(Rows.procWholeSpec.pre enc Tryz.prog Tryz.f4 [] false w args∧laidMetH Tryz.prog gU w)∧sizedMet enc Tryz.prog Tryz.f4 (OpenSpec.ofChange Rows.procWholeSpec) false w args)
   (Rows.procWholeSpec.post enc Tryz.prog Tryz.f4 false true false false):=by
 refine kJ wV (tb:=4) started (by kernel_rfl) Tryz.func4 rfl rfl Tryz.underlying4 (by kernel_rfl)
  (fun ds h=>by match ds,h with|[_,_],_=>rfl)
  (ChangeSpec.witness_shaped (enc:=enc) (C:=Tryz.checked) (os:=os) (X:=fun w _=>laidMetH Tryz.prog gU w) false (World.doorLaid Tryz.prog 400 os) #[.agg #[.int .i64 0, .int .i64 0], .slice none 0 0] 8 rfl (World.shaped_of_RefB (by kernel_rfl) (by kernel_rfl)) (by kernel_rfl) (by kernel_rfl) (by kernel_rfl) (qM os _)) ?_
 intro W args ds p base hval hA hlt hL
 rw[Tryz.params4]at hA hval
 obtain⟨v0,vs0,d0,ds0,p0,q0,hargs,rfl,rfl,h0,r0⟩:=trodAll_cons hA
 obtain⟨v1,vs1,d1,ds1,p1,q1,rfl,rfl,rfl,h1,r1⟩:=trodAll_cons r0
 obtain⟨rfl,rfl,rfl⟩:=trodAll_nil r1
 obtain rfl:args=#[v0,v1]:=by cases args;simp_all
 obtain⟨x0,y0,rfl,ax0,ay0⟩:=uM (hval 0 29 v0 rfl rfl) h0
 obtain⟨S1,O1⟩:=Dr (hval 1 70 v1 rfl rfl) h1 (fun x hx=>hlt x (by simp[hx]))
 exact Dx x0 y0 v1 S1 W ⟨ax0,ay0⟩ O1 hL
theorem procWhole_holds:Rows.ProcWholeSaid:=
 OpenClaim.holds_of_wide 4 Tryz.f4 rfl rfl rfl rfl rfl rfl rfl ⟨rfl,rfl,rfl,rfl,rfl⟩ rfl rfl rfl rfl rfl (by kernel_rfl) Tryz.func4 (by kernel_rfl)
  (of_decide_eq_true (by kernel_rfl)) (by unfold Func.isWrapper;first|(rw[if_pos (by decide+kernel)];kernel_rfl)|(rw[if_neg (by decide+kernel)];exact⟨rfl,rfl⟩))
  (fun os started H enc _=>zk os started H enc)
theorem procWhole_card:Rows.ProcWholeCardSaid:=
 Claim7.holds_tied_plain_at .later [] [.data, .data, .data] true Rows.procWholeCard.stood.harness false
  procWhole_holds (fun _ h=>by cases h) (by kernel_rfl) (fun _ h=>by cases h) procWhole_row_tie rfl ⟨rfl,rfl⟩ (by kernel_rfl) rfl
  (fun f fn hf hfn=>by
   obtain rfl:f=4:=Option.some.inj ((show Tryz.prog.funcNamed "priory/priorylaw18.ProcWhole" =some 4 by kernel_rfl).symm.trans hf) |>.symm
   obtain rfl:fn=Tryz.f4:=(Option.some.inj (Tryz.func4.symm.trans hfn)).symm
   exact⟨by kernel_rfl,fun j t ht=>by
    rw[Tryz.params4]at ht
    have hm:t∈[29,70]:=by simpa using Array.mem_of_getElem? ht
    have hall:([29,70].all fun u=> !Tryz.prog.wantsStandIn u)=true:=by kernel_rfl
    exact(show Tryz.prog.wantsStandIn t=false by simpa using List.all_eq_true.1 hall t hm)⟩)
  (by kernel_rfl)
end Go.Proofs.YtammlljefhakmaaGreatDoor
