/- Helps of the proof. No condition. -/
import Derived.Test.YtammlljefhakmaaGreatDoorIG
import Derived.Deep.RegionHeld3
import Derived.Deep.AppendLies
import Derived.Great.BuildSlice
namespace Go.Proofs.YtammlljefhakmaaGreatDoor
open Go.RowKit Go.Shelf Go.Maps
attribute [local go_sem] Oper.semAt_some
set_option maxRecDepth 100000
theorem Vo:(Tryz.prog.info? 194).map (fun i=>(i.zero,i.size,i.bytes))=some (some (.agg #[.int .i64 0, .int .i64 0, .int .u32 0]),3,24):=by kernel_rfl
def Ac(R:List Rp):List Value:=R.flatMap fun r=>[.int .i64 r.1, .int .i64 r.2.1, .int .u32 r.2.2]
theorem Vp(R:List Rp)(r:Rp):Ac (R++[r])=Ac R++[.int .i64 r.1, .int .i64 r.2.1, .int .u32 r.2.2]:=by simp[Ac]
theorem zC(L:List Nd):∀k,(mH k L).length≤k
 |0=>Nat.le_refl _
 |k+1=>by
  have:=zC L k
  have h2:(oG ((k:Int)+1) (kH k L)).length≤1:=by unfold oG;split<;>simp
  show(mH k L++oG ((k:Int)+1) (kH k L)).length≤k+1
  rw[List.length_append]
  omega
theorem sK{T:TypeId}{w w':World}{base k n B:Nat}{v:Value}{xs:List Value}(h:w.ownsRow base T k v n xs)(hw:eX T B w w'):w'.ownsRow base T k v n xs:=by
 refine⟨h.1,?_⟩
 rcases h.2 with hn|⟨g,cap,cur,rfl,hb,hgg,rest⟩
 ·exact .inl hn
 ·exact .inr ⟨g,cap,cur,rfl,hb,hw.rows g _ hgg rfl,rest⟩
theorem Only.more{a w w':World}{B C:Nat→Prop}(h:Only a w B)(k:Only w w' C)(hC:∀i,C i→B i∨a.heap.size≤i):Only a w' B:=
 ⟨k.os.trans h.os,k.tape.trans h.tape,k.output.trans h.output,Nat.le_trans h.size k.size,fun i hi hB=>(k.block i (Nat.lt_of_lt_of_le hi h.size) (fun hc=>by
  rcases hC i hc with h1|h1
  ·exact hB h1
  ·omega)).trans (h.block i hi hB)⟩
theorem Vq(w:World)(a b c:Int):∀j u,[Value.int .i64 a, .int .i64 b, .int .u32 c][j]? =some u→(w.alloc (.cells #[.int .i64 a, .int .i64 b, .int .u32 c] 194)).drew.cell? ((⟨w.heap.size,0,none⟩:Addr).add j)=some u:=fun j u hu=>by
 rw[Addr.add_mid,Nat.zero_add]
 show(w.alloc (.cells #[.int .i64 a, .int .i64 b, .int .u32 c] 194)).cell? _= _
 rw[cell_of_row _ _ _ _ _ _ (heap_alloc_new w _)]
 simpa using hu
theorem nJ{L:List Nd}{j s:Int}{x:Nd}(h:aD j L=some x):aD j (L.map (setSt j s))=some (x.1,x.2.1,s,x.2.2.2):=by
 rw[bC (bV j s),h]
 have:=(aj h).2
 simp[setSt,this]
theorem rE{L:List Nd}{j s i:Int}(hi:i≠j):aD i (L.map (setSt j s))=aD i L:=by
 rw[bC (bV j s)]
 cases e:aD i L with
 |none=>rfl
 |some x=>
  have:=(aj e).2
  simp[setSt,show ¬x.1=j by omega]
structure Bq(w:World)(b m:Nat)(n:Int)(P:Pt)(L:List Nd)(s:JJ)(V:World):Prop where
 le:1≤s.1
 eq:s.2.2=kH (s.1-1).toNat L
 tab:TabAt V b m n s.2.1 s.2.2
 sub:∀id p,s.2.1 id=some p→P id=some p
 low:Bp w.heap.size b m P
 only:Only w V (tB m P)
 Vr:V.heap[w.heap.size]? =some (mX b)
 Eh:V.heap[w.heap.size+1+1]? =some (mX b)
 row:∃v,V.heap[w.heap.size+1]? =some (.cells #[v] 102 (0,0))∧V.ownsRow w.heap.size 194 3 v (mH (s.1-1).toNat L).length (Ac (mH (s.1-1).toNat L))
theorem Bq.ac9{w:World}{b m:Nat}{n:Int}{P:Pt}{L:List Nd}{s:JJ}{V:World}(h:Bq w b m n P L s V):Bp w.heap.size b m s.2.1:=
 fun k hk=>h.low k (hk.imp id (fun hk=>hk.imp id (fun⟨id,hp⟩=>⟨id,h.sub id k hp⟩)))
theorem Bq.stay{w:World}{b m:Nat}{n:Int}{P:Pt}{L:List Nd}{s:JJ}{V V':World}(h:Bq w b m n P L s V){B:Nat}(hB:w.heap.size+1+1<B)(hs:eX 194 B V V'):Bq w b m n P L s V':=
 ⟨h.le,h.eq,h.tab.step hs.gG (fun k hk=>by have:=h.ac9 k hk;omega),h.sub,h.low,
  ⟨hs.gG.os.trans h.only.os,hs.gG.tape.trans h.only.tape,hs.gG.output.trans h.only.output,Nat.le_trans h.only.size hs.gG.size,fun k hk hn=>(hs.gG.block k (by omega)).trans (h.only.block k hk hn)⟩,
  (hs.gG.block _ (by omega)).trans h.Vr,(hs.gG.block _ (by omega)).trans h.Eh,by
  obtain⟨v,h1,h2⟩:=h.row
  exact⟨v,(hs.gG.block _ (by omega)).trans h1,sK h2 hs⟩⟩
theorem Bq.pass{w:World}{b m:Nat}{n:Int}{P P':Pt}{L L':List Nd}{j:Int}{V:World}(h:Bq w b m n P L (j,P',L') V)(hn:kT j L'=none):Bq w b m n P L (j+1,P',L') V:=by
 have h1:=h.le
 have h2:=h.eq
 simp only at h1 h2
 have ej:(j+1-1).toNat=(j-1).toNat+1:=by omega
 have ek:(((j-1).toNat:Nat):Int)+1=j:=by omega
 have e1:kH (j+1-1).toNat L=L':=by rw[ej];show kG _ (kH _ L)=L';rw[ek,←h2];unfold kG;rw[hn]
 have e2:mH (j+1-1).toNat L=mH (j-1).toNat L:=by rw[ej];show mH _ L++oG _ (kH _ L)= _;rw[ek,←h2];unfold oG;rw[hn];simp
 exact⟨by simp only;omega,e1.symm,h.tab,h.sub,h.low,h.only,h.Vr,h.Eh,by simp only[e2];exact h.row⟩
def acd(w:World)(b m:Nat)(n:Int)(P:Pt)(L':List Nd)(R:List Rp)(e:Ending)(w':World):Prop:=(∃v,e= .returned v∧w'.ownsRow w.heap.size 194 3 v R.length (Ac R))∧Ru w w' b m n P L'
set_option maxHeartbeats 8000000 in
theorem ET{w:World}{b m:Nat}{n:Int}{P:Pt}{L:List Nd}(h:TabAt w b m n P L):
  Calls Tryz.prog 108 #[.pointer (some ⟨b,0,none⟩)] w (acd w b m n P (qD n L) (vD n L)):=by
 obtain⟨ie,hi,hi0,hi1,hi2⟩:=info_parts Vo
 have hmx:Tryz.prog.follows .mixedOrders=true:=by kernel_rfl
 obtain⟨w2,hw2⟩:∃w2,w2=(w.alloc (.cells #[.pointer (some ⟨b,0,none⟩)] 31)).alloc (.cells #[.slice none 0 0] 102):=⟨_,rfl⟩
 have hz2:w2.heap.size=w.heap.size+1+1:=by rw[hw2];simp
 obtain⟨w3,hw3⟩:∃w3,w3=w2.alloc (.cells #[.pointer (some ⟨b,0,none⟩)] 31):=⟨_,rfl⟩
 have hz3:w3.heap.size=w.heap.size+3:=by rw[hw3];simp;omega
 have b2:Below w.heap.size w w2:=by rw[hw2];exact ak _ _ _
 have b3:Below w2.heap.size w2 w3:=by rw[hw3];exact(Below.refl _ _).alloc (Nat.le_refl _) _
 have x1:w2.heap[w.heap.size]? =some (mX b):=by rw[hw2];exact heap_alloc2_old _ _ _
 have x2:w2.heap[w.heap.size+1]? =some (.cells #[.slice none 0 0] 102 (0,0)):=by rw[hw2];exact heap_alloc2_new _ _ _
 have x3:w3.heap[w2.heap.size]? =some (mX b):=by rw[hw3];exact heap_alloc_new _ _
 rw[hz2]at x3
 have b3':Below w.heap.size w w3:=b2.trans (b3.mono (by omega))
 have R3:Hid (Bq w b m n P L (1,P,L) w3):=Lib.hid ⟨by simp,rfl,h.later b3',fun _ _ e=>e,h.low,Only.below b3',(b3.block _ (by omega)).trans x1,x3,_,(b3.block _ (by omega)).trans x2,World.ownsRow_nil _ _ _ _⟩
 have X3:=Lib.hid x3
 have HL:=Lib.hid h.low
 have HN:=Lib.hid h.good.most
 clear x1 x2 x3 b2 b3 b3' h
 refine(callsIn_wide (n:=16)).1 ?_
 refine callsIn_of_wp_marks Tryz.func108 rfl trivial ?_ rfl
 simp only[Tryz.ntmps108,List.size_toArray,List.length_cons,List.length_nil,Nat.reduceAdd,Nat.reduceSub,Array.replicate_succ,Array.replicate_zero,List.push_toArray,List.append_toArray,List.nil_append,List.cons_append]
 gi_wp2
 refine⟨trivial,?_⟩
 rw[←hw2]
 clear hw2
 refine(callsIn_wide.2 (Rv _ _)).mono ?_
 rintro e w' ⟨rfl,rfl⟩
 gi_wp2
 rw[←hw3]
 clear hw3
 refine qC (T:=194) (gf:=216) (lb:=#[.pointer (some ⟨w.heap.size+1+1,0,none⟩)]) rfl (enters Tryz.func216 rfl rfl) (Vn (T:=194) (by decide) b m (w.heap.size+1+1) n w3 X3.out)
  (fun k hk=>⟨by omega,rfl⟩) (Nat.le_refl _) (by intro _;rfl)
  (Bq w b m n P L) (fun _ _=>False)
  (fun s V V' hh hs=>hh.stay (by omega) hs) (fun _ _ _ hh _=>hh)
  (fun s V hh=>hh.tab)
  (1,P,L) rfl R3.out
  (fun x a' _=>a'={ tmps:=#[.pointer (some ⟨b,0,none⟩), .pointer (some ⟨w.heap.size,0,none⟩), .slice none 0 0, .pointer (some ⟨w.heap.size+1,0,none⟩), .pointer (some ⟨x.1,0,none⟩), .pointer (some ⟨x.2,0,none⟩), .pointer (some ⟨b,0,none⟩), .func (.func 216) #[] #[.pointer (some ⟨w.heap.size+1+1,0,none⟩)], .pointer (some ⟨x.1,0,none⟩), .pointer (some ⟨x.2,0,none⟩),undef,undef,undef,undef,undef,undef,undef,undef,undef,undef,undef,undef,undef,undef,undef,undef,undef,undef,undef,undef,undef,undef,undef,undef,undef,undef,undef,undef],defers:=[] })
  (fun _ _ _ _ _ _ hs _ _=>hs)
  ?assign ?body ?pass ?done ?stop
 case assign=>
  rintro l' s x V C hI hzv hC
  dsimp only[Vm]
  gi_wp2
  exact hC _ _ (aW.refl _ _ _ _) hI rfl
 case body=>
  rintro l' ⟨j,P',L'⟩ ⟨p,q⟩ a' V hI hzv ⟨hr,hp,c,hc,hq⟩ rfl
  have htab:=hI.tab
  have hlow:=hI.ac9
  simp only at htab hlow hr hp hc hq
  obtain⟨⟨x,hx,hx2⟩,hcm,hcp,hc3⟩:=lg hc
  obtain⟨x',hx',hpx⟩:=htab.proc hp
  obtain rfl:x=x':=by rw[hx]at hx';exact Option.some.inj hx'
  obtain⟨y,hy,hqy⟩:=htab.proc hq
  obtain rfl:c=y:=by rw[dI htab.good.up hcm]at hy;exact Option.some.inj hy
  have hx1:=(aj hx).2
  have hcj:c.1≠j:=fun e=>by rw[e,hx]at hy;cases hy;rw[hx2]at hc3;cases hc3
  have hpq:q≠p:=fun e=>hcj (htab.inj (e▸hq) hp)
  obtain⟨v,hl,ho⟩:=hI.row
  have hlt:=fun k (hk:v.ownBlock=some k)=>ho.lt k hk
  obtain⟨R,hR⟩:∃R,R=mH (j-1).toNat L:=⟨_,rfl⟩
  have hRl:R.length≤8:=by have:=zC L (j-1).toNat;have:=HN.out;rw[hR];omega
  change V.ownsRow w.heap.size 194 3 v (mH (j-1).toNat L).length (Ac (mH (j-1).toNat L))at ho
  rw[←hR]at ho
  have hpl:=lt_of_block hpx
  have hql:=lt_of_block hqy
  have hpw:p<w.heap.size:=hlow p (Or.inr (Or.inr ⟨j,hp⟩))
  have hqw:q<w.heap.size:=hlow q (Or.inr (Or.inr ⟨c.1,hq⟩))
  have hmw:m<w.heap.size:=hlow m (Or.inr (Or.inl rfl))
  have hbw:b<w.heap.size:=hlow b (Or.inl rfl)
  obtain⟨x1,x2,x3,x4⟩:=x
  obtain⟨c1,c2,c3,c4⟩:=c
  simp only at hx1 hx2 hcj hcp hc3 hy hq
  subst hx1 hx2
  obtain⟨a0,a1,a2,a3,af⟩:=bG hpx
  obtain⟨e0, -, -,e3, -⟩:=bG hqy
  simp only at a0 a2 e0 e3
  have f2:=af 2
  obtain⟨Va,hVa⟩:∃Va,Va=V.setCell ⟨p,2,none⟩ (.int .i64 1):=⟨_,rfl⟩
  have ga:V.grownBy Va (some p):=by rw[hVa];exact grownBy_setCell _ _ _ _
  have za:Va.heap.size=V.heap.size:=by rw[hVa];simp
  have sa:∀k,k<V.heap.size→k≠p→Va.heap[k]? =V.heap[k]? :=fun k hk hn=>ga.block k hk (fun e=>hn (Option.some.inj e))
  have ta:TabAt Va b m n P' (L'.map (setSt x1 1)):=htab.turn hp (x':=(x1,x2,1,x4)) (by rw[hVa];exact heap_setCell_same _ _ 2 _ _ _ hpx) sa (nJ hx) (fun i hi=>rE hi) (htab.good.setSt x1 1 (by decide)) (by simp)
  have hcm2:(c1,c2,c3,c4)∈L'.map (setSt x1 1):=List.mem_map.2 ⟨_,hcm,by simp[setSt,hcj]⟩
  have hdl:=zw ta.good.up hcm2
  have q0a:Va.cell? ⟨w.heap.size,0,none⟩=some (.pointer (some ⟨b,0,none⟩)):=cell_of_one ((sa _ (lt_of_block hI.Vr) (by omega)).trans hI.Vr)
  have t1a:=ta.c1
  have hqa:Va.heap[q]? =some (DT (c1,c2,c3,c4)):=(sa _ hql hpq).trans hqy
  obtain⟨g0, -, -,g3, -⟩:=bG hqa
  simp only at g0 g3
  have hpa:Va.heap[p]? =some (DT (x1,x2,1,x4)):=by
   obtain⟨z,hz1,hz2⟩:=ta.proc hp
   rw[nJ hx]at hz1
   cases hz1
   exact hz2
  have hla:Va.heap[w.heap.size+1]? =some (.cells #[v] 102 (0,0)):=(sa _ (lt_of_block hl) (by omega)).trans hl
  have hoa:Va.ownsRow w.heap.size 194 3 v R.length (Ac R):=iU ho (Only.grown (B:=fun k=>k=p) ga rfl) (fun g hg e=>by have:=(hlt g hg).1;omega)
  have hst:kG x1 L'=fT c1 (L'.map (setSt x1 1)):=by unfold kG;rw[hc]
  have hsr:oG x1 L'=[(x1,c1,c4)]:=by unfold oG;rw[hc]
  have TAD:Hid (bg Va.drew m P' ((fT c1 (L'.map (setSt x1 1))).length+1)):=Lib.hid (by rw[hdl];exact ta.map)
  have HQ:=Lib.hid hq
  have HP:=Lib.hid hp
  have TA:=Lib.hid ta
  have PA:=Lib.hid hpa
  have QA:=Lib.hid hqa
  have LA:=Lib.hid hla
  have OV:=Lib.hid ho
  have OVA:=Lib.hid hoa
  have GA:=Lib.hid ga
  have HI:=Lib.hid hI
  have HLT:=Lib.hid hlt
  have HR:=Lib.hid hR
  have HST:=Lib.hid hst
  have HSR:=Lib.hid hsr
  have hc8:1≤c1∧c1≤8:=by have h1:=(htab.good.ok _ hcm).1;have h2:=htab.good.most;change 1≤c1∧c1≤n at h1;omega
  clear hpx hqy htab hlow hx hx' hcm hcp hc3 hy hp hq hl ho hlt hR hI ga sa ta hcm2 hdl hqa hpa hla hoa hst hsr hc af
  gi_wp2
  rw[←hVa]
  clear hVa a0 a1 a2 a3 e0 e3 f2
  refine sH 8 hmx (by kernel_rfl) (by rfl) ?_
  simp only[List.take_succ_cons,List.take_zero,List.drop_succ_cons,List.drop_zero]
  repeat still_step
  try refine wpStill_nil ?_
  refine vE _ rfl (.tmp 16) (.tmp 20) rfl m _ P' rfl TAD.out c1 rfl hc8 q HQ.out ?_
  intro Vd hm9 hg8
  have hg9:Va.grownBy Vd (some m):=grownBy_trans (aP (Below.refl _ _).drew _) hg8
  have TD:=Lib.hid (TA.out.drop HQ.out hm9 hg9 rfl)
  have GD:=Lib.hid hg9
  clear hm9 hg8 hg9
  gi_wp2
  have sd:∀k,k<Va.heap.size→k≠m→Vd.heap[k]? =Va.heap[k]? :=fun k hk hn=>GD.out.block k hk (fun e=>hn (Option.some.inj e))
  have zd:Va.heap.size≤Vd.heap.size:=GD.out.size
  have pm:p≠m:=fun e=>TA.out.kF x1 (e▸HP.out)
  have qm:q≠m:=fun e=>TA.out.kF c1 (e▸HQ.out)
  have pd:Vd.heap[p]? =some (DT (x1,x2,1,x4)):=(sd _ (by omega) pm).trans PA.out
  have qd:Vd.heap[q]? =some (DT (c1,c2,c3,c4)):=(sd _ (by omega) qm).trans QA.out
  have ld:Vd.heap[w.heap.size+1]? =some (.cells #[v] 102 (0,0)):=(sd _ (lt_of_block LA.out) (by omega)).trans LA.out
  have od:Vd.ownsRow w.heap.size 194 3 v R.length (Ac R):=iU OVA.out (Only.grown (w:=Va) (B:=fun k=>k=m) GD.out rfl) (fun g hg e=>by have:=(HLT.out g hg).1;omega)
  have l0:=cell_of_one ld
  obtain⟨WA,hWA⟩:∃WA,WA=(Vd.alloc (.cells #[.int .i64 x1, .int .i64 c1, .int .u32 c4] 194)).drew:=⟨_,rfl⟩
  have bw:Below Vd.heap.size Vd WA:=by rw[hWA];exact((Below.refl _ _).alloc (Nat.le_refl _) _).drew
  have cells3:∀W':World,W'.heap[p]? =some (DT (x1,x2,1,x4))→W'.heap[q]? =some (DT (c1,c2,c3,c4))→W'.cell? ⟨p,0,none⟩=some (.int .i64 x1)∧W'.cell? ⟨q,0,none⟩=some (.int .i64 c1)∧W'.cell? ⟨q,3,none⟩=some (.int .u32 c4):=fun W' h1 h2=>⟨(bG h1).1,(bG h2).1,(bG h2).2.2.2.1⟩
  have SD:Hid (Vd.drew.cell? ⟨p,0,none⟩=some (.int .i64 x1)∧Vd.drew.cell? ⟨q,0,none⟩=some (.int .i64 c1)∧Vd.drew.cell? ⟨q,3,none⟩=some (.int .u32 c4)):=Lib.hid (cells3 Vd.drew pd qd)
  have SA:=Lib.hid (cells3 WA (below_block bw pd) (below_block bw qd))
  have OA:=Lib.hid (gN od bw)
  have Bh:=Lib.hid (Vq Vd x1 c1 c4)
  have ZA:Hid (w.heap.size≤WA.heap.size):=Lib.hid (by have:=bw.size;omega)
  have s0:WA.cell? ⟨w.heap.size+1,0,none⟩=some v:=cell_of_one (below_block bw ld)
  have Zo:∀g k,v.ownBlock=some g→(k=p∨k=q∨k=w.heap.size+1)→g≠k:=fun g k hg hk e=>by
   obtain⟨cs,hcs⟩:=bF od hg
   rcases hk with rfl|rfl|rfl
   ·have:=(HLT.out g hg).1;omega
   ·have:=(HLT.out g hg).1;omega
   ·rw[e,ld]at hcs
    exact absurd (show(some 102:Option Nat)=some 194 from congrArg kindOf (Option.some.inj hcs)) (by decide)
  have Zp:Hid (∀w4,WA.grownBy w4 v.ownBlock→w4.heap[w.heap.size+1]? =some (.cells #[v] 102 (0,0))):=Lib.hid (fun w4 hg=>(hg.block _ (lt_of_block (below_block bw ld)) (fun e=>Zo _ _ e.symm (Or.inr (Or.inr rfl)) rfl)).trans (below_block bw ld))
  have Zq:Hid (∀w4,WA.grownBy w4 v.ownBlock→w4.heap[p]? =some (DT (x1,x2,1,x4))∧w4.heap[q]? =some (DT (c1,c2,c3,c4))):=Lib.hid (fun w4 hg=>⟨(hg.block _ (lt_of_block (below_block bw pd)) (fun e=>Zo _ _ e.symm (Or.inl rfl) rfl)).trans (below_block bw pd),(hg.block _ (lt_of_block (below_block bw qd)) (fun e=>Zo _ _ e.symm (Or.inr (Or.inl rfl)) rfl)).trans (below_block bw qd)⟩)
  have S4:Hid (∀w4,WA.grownBy w4 v.ownBlock→w4.cell? ⟨p,0,none⟩=some (.int .i64 x1)∧w4.cell? ⟨q,0,none⟩=some (.int .i64 c1)∧w4.cell? ⟨q,3,none⟩=some (.int .u32 c4)):=Lib.hid (fun w4 hg=>cells3 w4 (Zq.out w4 hg).1 (Zq.out w4 hg).2)
  have S5:Hid (∀w4,WA.grownBy w4 v.ownBlock→∀u,(w4.setCell ⟨w.heap.size+1,0,none⟩ u).cell? ⟨p,0,none⟩=some (.int .i64 x1)∧(w4.setCell ⟨w.heap.size+1,0,none⟩ u).cell? ⟨q,0,none⟩=some (.int .i64 c1)∧(w4.setCell ⟨w.heap.size+1,0,none⟩ u).cell? ⟨q,3,none⟩=some (.int .u32 c4)):=Lib.hid (fun w4 hg u=>cells3 _ ((Below.heap_setCell _ _ _ _ (by simp only;omega)).trans (Zq.out w4 hg).1) ((Below.heap_setCell _ _ _ _ (by simp only;omega)).trans (Zq.out w4 hg).2))
  have FIN:Hid (∀u w4,w4.ownsRow w.heap.size 194 3 u (R.length+1) (Ac R++[.int .i64 x1, .int .i64 c1, .int .u32 c4])→WA.grownBy w4 v.ownBlock→aW 194 (fun k=>k=w.heap.size+1+1) w3.heap.size V (w4.setCell ⟨w.heap.size+1,0,none⟩ u)∧∃s',(abk b m n).Nx (x1,P',L') s'∧Bq w b m n P L s' (w4.setCell ⟨w.heap.size+1,0,none⟩ u)):=Lib.hid (fun u w4 ho4 hg4=>by
   have l4:=Zp.out w4 hg4
   have o1:Only Vd (w4.setCell ⟨w.heap.size+1,0,none⟩ u) (fun k=>k=w.heap.size+1∨v.ownBlock=some k):=((Only.below bw).trans ⟨hg4.os,hg4.tape,hg4.output,hg4.size,fun i hi hB=>hg4.block i hi (fun e=>hB (Or.inr e.symm))⟩).trans (Only.grown (grownBy_setCell _ _ _ _) (Or.inl rfl))
   have o2:Only V (w4.setCell ⟨w.heap.size+1,0,none⟩ u) (fun k=>(k=p∨k=m)∨(k=w.heap.size+1∨v.ownBlock=some k)):=
    ((Only.grown (B:=fun k=>(k=p∨k=m)∨(k=w.heap.size+1∨v.ownBlock=some k)) GA.out (Or.inl (Or.inl rfl))).trans (Only.grown (w:=Va) GD.out (Or.inl (Or.inr rfl)))).trans (o1.mono fun k hk=>Or.inr hk)
   have o5:(w4.setCell ⟨w.heap.size+1,0,none⟩ u).ownsRow w.heap.size 194 3 u (R.length+1) (Ac R++[.int .i64 x1, .int .i64 c1, .int .u32 c4]):=iU (B:=fun k=>k=w.heap.size+1) ho4 (Only.grown (grownBy_setCell _ _ _ _) rfl) (fun g hg e=>by
    obtain⟨cs,hcs⟩:=bF ho4 hg
    rw[e,l4]at hcs
    exact absurd (show(some 102:Option Nat)=some 194 from congrArg kindOf (Option.some.inj hcs)) (by decide))
   have I:=HI.out
   refine⟨aW.only o2 (fun k hk e=>?_) (fun k o hk hko hB=>?_),(x1+1,gX P' c1 none,kG x1 L'),rfl,?_⟩
   ·rcases hk with(hk|hk)|(hk|hk)
    ·omega
    ·omega
    ·omega
    ·obtain⟨cs,hcs⟩:=bF OV.out hk
     rw[e,I.Eh]at hcs
     exact absurd (show(some 31:Option Nat)=some 194 from congrArg kindOf (Option.some.inj hcs)) (by decide)
   ·rcases hk with(hk|hk)|(hk|hk)
    ·omega
    ·omega
    ·omega
    ·obtain⟨cs,hcs⟩:=bF OV.out hk
     rw[hko]at hcs
     rw[Option.some.inj hcs]
     rfl
   ·have h1:=I.le
    have h2:=I.eq
    simp only at h1 h2
    have ej:(x1+1-1).toNat=(x1-1).toNat+1:=by omega
    have ek:(((x1-1).toNat:Nat):Int)+1=x1:=by omega
    have q1:kH (x1+1-1).toNat L=kG x1 L':=by rw[ej];show kG _ (kH _ L)= _;rw[ek,←h2]
    have q2:mH (x1+1-1).toNat L=R++[(x1,c1,c4)]:=by rw[ej];show mH _ L++oG _ (kH _ L)= _;rw[ek,←h2,HSR.out,HR.out]
    have aeN:∀id k,gX P' c1 none id=some k→P' id=some k:=fun id k e=>by
     unfold gX at e
     split at e
     ·cases e
     ·exact e
    have aeO:Bp w.heap.size b m (gX P' c1 none):=fun k hk=>I.ac9 k (hk.imp id (fun hk=>hk.imp id (fun⟨id,hp⟩=>⟨id,aeN id k hp⟩)))
    have keep:∀k,k<w.heap.size→(w4.setCell ⟨w.heap.size+1,0,none⟩ u).heap[k]? =Vd.heap[k]? :=fun k hk=>o1.block k (by have:=lt_of_block ld;omega) (fun hk2=>by
     rcases hk2 with e|e
     ·omega
     ·have:=(HLT.out k e).1;omega)
    have old:∀k o,w.heap.size≤k→k≠w.heap.size+1→V.heap[k]? =some o→kindOf o≠some 194→(w4.setCell ⟨w.heap.size+1,0,none⟩ u).heap[k]? =some o:=fun k o h1 h2 h3 h4=>o2.kept h3 (by
     rintro((e|e)|(e|e))
     ·omega
     ·omega
     ·exact h2 e
     ·obtain⟨cs,hcs⟩:=bF OV.out e
      rw[h3]at hcs
      rw[Option.some.inj hcs]at h4
      exact h4 rfl)
    refine⟨by simp only;omega,q1.symm,?_,fun id k e=>I.sub id k (aeN id k e),I.low,I.only.more o2 (fun k hk=>?_),old _ _ (Nat.le_refl _) (by omega) I.Vr (show(some 31:Option Nat)≠some 194 by decide),old _ _ (by omega) (by omega) I.Eh (show(some 31:Option Nat)≠some 194 by decide),u,heap_setCell_same _ _ 0 _ _ _ l4,?_⟩
    ·simp only
     rw[HST.out]
     exact TD.out.kept (keep _ (aeO _ (Or.inl rfl))) (fun k hk=>keep k (aeO k (Or.inr hk)))
    ·rcases hk with(hk|hk)|(hk|hk)
     ·exact Or.inl (Or.inr ⟨x1,hk▸I.sub x1 p HP.out⟩)
     ·exact Or.inl (Or.inl hk)
     ·exact Or.inr (by omega)
     ·exact Or.inr (HLT.out k hk).1
    ·simp only[q2]
     rw[List.length_append,Vp]
     exact o5)
  clear sd zd pm qm pd qd ld od cells3 Zo Zq g0 g3 q0a t1a bw
  rw[hWA]at SA OA ZA s0 Zp S4 S5 FIN
  clear hWA
  refine Bn (S:=fun w'=>w'.cell? ⟨p,0,none⟩=some (.int .i64 x1)∧w'.cell? ⟨q,0,none⟩=some (.int .i64 c1)∧w'.cell? ⟨q,3,none⟩=some (.int .u32 c4)) hmx (by rfl) (fun⟨_,_,h⟩=>h) (by exact SD.out) (fun hHeld=>?_)
  refine wpAnyH_take (i:=1) (oi:=_) (v:= .pointer (some ⟨p,0,none⟩)) rfl (by kernel_rfl) (by kernel_rfl) (by kernel_rfl) (fun _ _ _ h=>h) (Or.inl ⟨by rfl,?_⟩) (by assumption) ?_
  ·intro w hSw
   try dsimp only at hSw
   go_split_ands
   go_simp
  try simp only[Act.put,List.getElem_toArray,List.getElem_cons_zero,List.getElem_cons_succ,List.setIfInBounds_toArray,List.set_cons_zero,List.set_cons_succ]
  refine wpAnyH_take (i:=2) (oi:=_) (v:= .pointer (some ⟨p,0,none⟩)) rfl (by kernel_rfl) (by kernel_rfl) (by kernel_rfl) (fun _ _ _ h=>h) (Or.inl ⟨by rfl,?_⟩) (by assumption) ?_
  ·intro w hSw
   try dsimp only at hSw
   go_split_ands
   go_simp
  try simp only[Act.put,List.getElem_toArray,List.getElem_cons_zero,List.getElem_cons_succ,List.setIfInBounds_toArray,List.set_cons_zero,List.set_cons_succ]
  refine wpAnyH_take (i:=3) (oi:=_) (v:= .pointer (some ⟨p,0,none⟩)) rfl (by kernel_rfl) (by kernel_rfl) (by kernel_rfl) (fun _ _ _ h=>h) (Or.inl ⟨by rfl,?_⟩) (by assumption) ?_
  ·intro w hSw
   try dsimp only at hSw
   go_split_ands
   go_simp
  try simp only[Act.put,List.getElem_toArray,List.getElem_cons_zero,List.getElem_cons_succ,List.setIfInBounds_toArray,List.set_cons_zero,List.set_cons_succ]
  refine wpAnyH_take (i:=4) (oi:=_) (v:= .int .i64 x1) rfl (by kernel_rfl) (by kernel_rfl) (by kernel_rfl) (fun _ _ _ h=>h) (Or.inl ⟨by rfl,?_⟩) (by assumption) ?_
  ·intro w hSw
   try dsimp only at hSw
   go_split_ands
   go_simp
  try simp only[Act.put,List.getElem_toArray,List.getElem_cons_zero,List.getElem_cons_succ,List.setIfInBounds_toArray,List.set_cons_zero,List.set_cons_succ]
  refine wpAnyH_take (i:=5) (oi:=_) (v:= .pointer (some ⟨q,0,none⟩)) rfl (by kernel_rfl) (by kernel_rfl) (by kernel_rfl) (fun _ _ _ h=>h) (Or.inl ⟨by rfl,?_⟩) (by assumption) ?_
  ·intro w hSw
   try dsimp only at hSw
   go_split_ands
   go_simp
  try simp only[Act.put,List.getElem_toArray,List.getElem_cons_zero,List.getElem_cons_succ,List.setIfInBounds_toArray,List.set_cons_zero,List.set_cons_succ]
  refine wpAnyH_take (i:=6) (oi:=_) (v:= .pointer (some ⟨q,0,none⟩)) rfl (by kernel_rfl) (by kernel_rfl) (by kernel_rfl) (fun _ _ _ h=>h) (Or.inl ⟨by rfl,?_⟩) (by assumption) ?_
  ·intro w hSw
   try dsimp only at hSw
   go_split_ands
   go_simp
  try simp only[Act.put,List.getElem_toArray,List.getElem_cons_zero,List.getElem_cons_succ,List.setIfInBounds_toArray,List.set_cons_zero,List.set_cons_succ]
  refine wpAnyH_take (i:=7) (oi:=_) (v:= .pointer (some ⟨q,0,none⟩)) rfl (by kernel_rfl) (by kernel_rfl) (by kernel_rfl) (fun _ _ _ h=>h) (Or.inl ⟨by rfl,?_⟩) (by assumption) ?_
  ·intro w hSw
   try dsimp only at hSw
   go_split_ands
   go_simp
  try simp only[Act.put,List.getElem_toArray,List.getElem_cons_zero,List.getElem_cons_succ,List.setIfInBounds_toArray,List.set_cons_zero,List.set_cons_succ]
  refine wpAnyH_take (i:=8) (oi:=_) (v:= .int .i64 c1) rfl (by kernel_rfl) (by kernel_rfl) (by kernel_rfl) (fun _ _ _ h=>h) (Or.inl ⟨by rfl,?_⟩) (by assumption) ?_
  ·intro w hSw
   try dsimp only at hSw
   go_split_ands
   go_simp
  try simp only[Act.put,List.getElem_toArray,List.getElem_cons_zero,List.getElem_cons_succ,List.setIfInBounds_toArray,List.set_cons_zero,List.set_cons_succ]
  refine wpAnyH_take (i:=9) (oi:=_) (v:= .pointer (some ⟨q,0,none⟩)) rfl (by kernel_rfl) (by kernel_rfl) (by kernel_rfl) (fun _ _ _ h=>h) (Or.inl ⟨by rfl,?_⟩) (by assumption) ?_
  ·intro w hSw
   try dsimp only at hSw
   go_split_ands
   go_simp
  try simp only[Act.put,List.getElem_toArray,List.getElem_cons_zero,List.getElem_cons_succ,List.setIfInBounds_toArray,List.set_cons_zero,List.set_cons_succ]
  refine wpAnyH_take (i:=10) (oi:=_) (v:= .pointer (some ⟨q,0,none⟩)) rfl (by kernel_rfl) (by kernel_rfl) (by kernel_rfl) (fun _ _ _ h=>h) (Or.inl ⟨by rfl,?_⟩) (by assumption) ?_
  ·intro w hSw
   try dsimp only at hSw
   go_split_ands
   go_simp
  try simp only[Act.put,List.getElem_toArray,List.getElem_cons_zero,List.getElem_cons_succ,List.setIfInBounds_toArray,List.set_cons_zero,List.set_cons_succ]
  refine wpAnyH_take (i:=11) (oi:=_) (v:= .pointer (some ⟨q,3,none⟩)) rfl (by kernel_rfl) (by kernel_rfl) (by kernel_rfl) (fun _ _ _ h=>h) (Or.inl ⟨by rfl,?_⟩) (by assumption) ?_
  ·intro w hSw
   try dsimp only at hSw
   go_split_ands
   go_simp
  try simp only[Act.put,List.getElem_toArray,List.getElem_cons_zero,List.getElem_cons_succ,List.setIfInBounds_toArray,List.set_cons_zero,List.set_cons_succ]
  refine wpAnyH_take (i:=12) (oi:=_) (v:= .int .u32 c4) rfl (by kernel_rfl) (by kernel_rfl) (by kernel_rfl) (fun _ _ _ h=>h) (Or.inl ⟨by rfl,?_⟩) (by assumption) ?_
  ·intro w hSw
   try dsimp only at hSw
   go_split_ands
   go_simp
  try simp only[Act.put,List.getElem_toArray,List.getElem_cons_zero,List.getElem_cons_succ,List.setIfInBounds_toArray,List.set_cons_zero,List.set_cons_succ]
  refine wpAnyH_take (i:=13) (oi:=_) (v:= .agg #[.int .i64 x1, .int .i64 c1, .int .u32 c4]) rfl (by kernel_rfl) (by kernel_rfl) (by kernel_rfl) (fun _ _ _ h=>h) (Or.inl ⟨by rfl,?_⟩) (by assumption) ?_
  ·intro w hSw
   try dsimp only at hSw
   go_split_ands
   go_simp
  try simp only[Act.put,List.getElem_toArray,List.getElem_cons_zero,List.getElem_cons_succ,List.setIfInBounds_toArray,List.set_cons_zero,List.set_cons_succ]
  refine wpAnyH_ready (rs:=[0,14]) (by kernel_rfl) (by simp) ?_
  refine AllReadyH.cons (o:=_) rfl (fun K hK=>?_) (AllReadyH.cons (o:=_) rfl (fun K hK=>?_) AllReadyH.nil)
  ·go_simp
   refine hK.out _ _ (by exact SD.out) (fun hHeld=>?_)
   clear hK K
   try simp only[Act.put,List.getElem_toArray,List.getElem_cons_zero,List.getElem_cons_succ,List.setIfInBounds_toArray,List.set_cons_zero,List.set_cons_succ]
   refine wpAnyH_ready (rs:=[14]) (by kernel_rfl) (by simp) ?_
   refine AllReadyH.cons (o:=_) rfl (fun K hK=>?_) AllReadyH.nil
   go_simp
   refine hK.out _ _ (by exact SA.out) (fun hHeld=>?_)
   clear hK K
   try simp only[Act.put,List.getElem_toArray,List.getElem_cons_zero,List.getElem_cons_succ,List.setIfInBounds_toArray,List.set_cons_zero,List.set_cons_succ]
   refine wpAnyH_ready (rs:=[15]) (by kernel_rfl) (by simp) ?_
   refine AllReadyH.cons (o:=_) rfl (fun K hK=>?_) AllReadyH.nil
   refine step_append_lies _ (by rfl) _ _ _ (by rfl) w.heap.size 194 ie _ 3 24 Tryz.underlying102 hi hi0 hi1 hi2 rfl (by omega) v R.length (Ac R) (by rfl) OA.out ⟨Vd.heap.size,0,none⟩ 1 1 [.int .i64 x1, .int .i64 c1, .int .u32 c4] (by rfl) (by rfl) Bh.out (by simp[Value.oneCell']) (by omega) (by unfold maxLen;omega) (by omega) ZA.out (Vd.heap.size+1) (by simp) ?_
   intro gg cap w4 ho hg _ _
   have hb4:=Zp.out w4 hg
   have hS4:=S4.out w4 hg
   have OO:=Lib.hid ho
   have GG:=Lib.hid hg
   have B4:=Lib.hid hb4
   have y1:=cell_of_one hb4
   have f1:=free_of_one hb4
   clear ho hg hb4
   try simp only[Act.put,List.getElem_toArray,List.getElem_cons_zero,List.getElem_cons_succ,List.setIfInBounds_toArray,List.set_cons_zero,List.set_cons_succ]
   refine hK.out _ _ (by exact hS4) (fun hHeld=>?_)
   clear hK K
   try simp only[Act.put,List.getElem_toArray,List.getElem_cons_zero,List.getElem_cons_succ,List.setIfInBounds_toArray,List.set_cons_zero,List.set_cons_succ]
   refine wpAnyH_ready (rs:=[16]) (by kernel_rfl) (by simp) ?_
   refine AllReadyH.cons (o:=_) rfl (fun K hK=>?_) AllReadyH.nil
   go_simp
   refine hK.out _ _ (by exact S5.out w4 GG.out _) (fun hHeld=>?_)
   clear hK K
   try simp only[Act.put,List.getElem_toArray,List.getElem_cons_zero,List.getElem_cons_succ,List.setIfInBounds_toArray,List.set_cons_zero,List.set_cons_succ]
   refine wpAnyH_done (by kernel_rfl) ?_ _
   gi_wp2
   exact FIN.out _ w4 OO.out GG.out
  ·go_simp
   refine hK.out _ _ (by exact SA.out) (fun hHeld=>?_)
   clear hK K
   try simp only[Act.put,List.getElem_toArray,List.getElem_cons_zero,List.getElem_cons_succ,List.setIfInBounds_toArray,List.set_cons_zero,List.set_cons_succ]
   refine wpAnyH_ready (rs:=[0]) (by kernel_rfl) (by simp) ?_
   refine AllReadyH.cons (o:=_) rfl (fun K hK=>?_) AllReadyH.nil
   go_simp
   refine hK.out _ _ (by exact SA.out) (fun hHeld=>?_)
   clear hK K
   try simp only[Act.put,List.getElem_toArray,List.getElem_cons_zero,List.getElem_cons_succ,List.setIfInBounds_toArray,List.set_cons_zero,List.set_cons_succ]
   refine wpAnyH_ready (rs:=[15]) (by kernel_rfl) (by simp) ?_
   refine AllReadyH.cons (o:=_) rfl (fun K hK=>?_) AllReadyH.nil
   refine step_append_lies _ (by rfl) _ _ _ (by rfl) w.heap.size 194 ie _ 3 24 Tryz.underlying102 hi hi0 hi1 hi2 rfl (by omega) v R.length (Ac R) (by rfl) OA.out ⟨Vd.heap.size,0,none⟩ 1 1 [.int .i64 x1, .int .i64 c1, .int .u32 c4] (by rfl) (by rfl) Bh.out (by simp[Value.oneCell']) (by omega) (by unfold maxLen;omega) (by omega) ZA.out (Vd.heap.size+1) (by simp) ?_
   intro gg cap w4 ho hg _ _
   have hb4:=Zp.out w4 hg
   have hS4:=S4.out w4 hg
   have OO:=Lib.hid ho
   have GG:=Lib.hid hg
   have B4:=Lib.hid hb4
   have y1:=cell_of_one hb4
   have f1:=free_of_one hb4
   clear ho hg hb4
   try simp only[Act.put,List.getElem_toArray,List.getElem_cons_zero,List.getElem_cons_succ,List.setIfInBounds_toArray,List.set_cons_zero,List.set_cons_succ]
   refine hK.out _ _ (by exact hS4) (fun hHeld=>?_)
   clear hK K
   try simp only[Act.put,List.getElem_toArray,List.getElem_cons_zero,List.getElem_cons_succ,List.setIfInBounds_toArray,List.set_cons_zero,List.set_cons_succ]
   refine wpAnyH_ready (rs:=[16]) (by kernel_rfl) (by simp) ?_
   refine AllReadyH.cons (o:=_) rfl (fun K hK=>?_) AllReadyH.nil
   go_simp
   refine hK.out _ _ (by exact S5.out w4 GG.out _) (fun hHeld=>?_)
   clear hK K
   try simp only[Act.put,List.getElem_toArray,List.getElem_cons_zero,List.getElem_cons_succ,List.setIfInBounds_toArray,List.set_cons_zero,List.set_cons_succ]
   refine wpAnyH_done (by kernel_rfl) ?_ _
   gi_wp2
   exact FIN.out _ w4 OO.out GG.out
 case pass=>
  rintro⟨j,P',L'⟩ ⟨j',P2,L2⟩ V hI ⟨⟨he,he2⟩, -,hn⟩
  simp only at he he2 hn
  subst he
  cases he2
  exact hI.pass hn
 case done=>
  rintro D ⟨j,P',L'⟩ V hD hf hI qx
  have hj:j=n+1:=hf
  subst hj
  obtain⟨v,hl,ho⟩:=hI.row
  have l0:=cell_of_one hl
  have e1:(n+1-1).toNat=n.toNat:=by omega
  simp only[e1]at ho
  have hE:=hI.eq
  simp only[e1]at hE
  have hS:=hI.stay (B:=w.heap.size+3) (by omega) (eX.put (T:=194) (.deferred none) qx (by simp[kindOf]) (by omega))
  have HS:=Lib.hid hS
  have HO:=Lib.hid (sK ho (eX.put (T:=194) (B:=w.heap.size+3) (.deferred none) qx (by simp[kindOf]) (by omega)))
  have HE:=Lib.hid hE
  clear hI hl ho hE hS
  gi_wp2
  refine⟨by simp, .inl ⟨_,_,rfl,run_takeDeferred qx,?_⟩⟩
  refine⟨v,?_,⟨v,rfl,HO.out⟩,⟨⟨P',by have:=HS.out.tab;simp only at this;rw[HE.out]at this;exact this,fun id p e=>Or.inl (HS.out.sub id p e)⟩,HS.out.only⟩⟩
  simp[results,Tryz.results108,go_sem]
 case stop=>
  rintro D c V hD hh qx
  exact hh.elim
end Go.Proofs.YtammlljefhakmaaGreatDoor
namespace Go.Proofs.YtammlljefhakmaaGreatDoor
open Go.RowKit Go.Shelf Go.Maps
attribute [local go_sem] Oper.semAt_some
set_option maxRecDepth 100000
theorem Vs:(Tryz.prog.info? 76).map (fun i=>(i.zero,i.size,i.bytes))=some (some (.agg #[.int .i64 0, .int .i64 0, .int .i64 0, .int .u32 0]),4,32):=by kernel_rfl
def xR(L:List Nd):List Value:=L.flatMap fun x=>[.int .i64 x.1, .int .i64 x.2.1, .int .i64 x.2.2.1, .int .u32 x.2.2.2]
theorem JL(A B:List Nd):xR (A++B)=xR A++xR B:=by simp[xR]
theorem Vt(x:Nd):xR [x]=[.int .i64 x.1, .int .i64 x.2.1, .int .i64 x.2.2.1, .int .u32 x.2.2.2]:=by simp[xR]
theorem Vu(w:World)(a b c d:Int):∀j u,[Value.int .i64 a, .int .i64 b, .int .i64 c, .int .u32 d][j]? =some u→(w.alloc (.cells #[.int .i64 a, .int .i64 b, .int .i64 c, .int .u32 d] 76)).drew.cell? ((⟨w.heap.size,0,none⟩:Addr).add j)=some u:=fun j u hu=>by
 rw[Addr.add_mid,Nat.zero_add]
 show(w.alloc (.cells #[.int .i64 a, .int .i64 b, .int .i64 c, .int .u32 d] 76)).cell? _= _
 rw[cell_of_row _ _ _ _ _ _ (heap_alloc_new w _)]
 simpa using hu
theorem Vv{n:Int}{L:List Nd}(h:aL n L)(j:Int):(jh j L).length≤8:=by
 have h1:=h.len
 have h2:=h.most
 have h3:(jh j L).length≤L.length:=List.length_filter_le _ _
 omega
structure xS(w:World)(b:Nat)(P:Pt)(L:List Nd)(s:JJ)(V:World):Prop where
 eq:s.2=(P,L)
 gG:Below w.heap.size w V
 Eh:V.heap[w.heap.size+1]? =some (mX b)
 row:∃v,V.heap[w.heap.size]? =some (.cells #[v] 52 (0,0))∧V.ownsRow w.heap.size 76 4 v (jh s.1 L).length (xR (jh s.1 L))
theorem xS.stay{w:World}{b:Nat}{P:Pt}{L:List Nd}{s:JJ}{V V':World}(h:xS w b P L s V){B:Nat}(hB:w.heap.size+1<B)(hs:eX 76 B V V'):xS w b P L s V':=
 ⟨h.eq,h.gG.trans (hs.gG.mono (by omega)),(hs.gG.block _ hB).trans h.Eh,by
  obtain⟨v,h1,h2⟩:=h.row
  exact⟨v,(hs.gG.block _ (by omega)).trans h1,sK h2 hs⟩⟩
def Br(w:World)(L:List Nd)(e:Ending)(w':World):Prop:=∃v,e= .returned v∧w'.ownsRow w.heap.size 76 4 v L.length (xR L)∧Below w.heap.size w w'
theorem Zr(p:Option Addr)(w:World)(h:JG w p):Calls Tryz.prog 62 #[.pointer p] w fun e w'=>e= .returned (.slice none 0 0)∧w=w':=by
 go_enter Tryz.func62,Tryz.ntmps62
 go_wp2_with fail
 refine(zy p w h).mono ?_
 rintro e w' ⟨rfl,rfl⟩
 go_wp2
 go_ret
 exact⟨rfl,rfl⟩
set_option maxHeartbeats 8000000 in
theorem Zt{w:World}{b m:Nat}{n:Int}{P:Pt}{L:List Nd}(h:TabAt w b m n P L):
  Calls Tryz.prog 62 #[.pointer (some ⟨b,0,none⟩)] w (Br w L):=by
 obtain⟨ie,hi,hi0,hi1,hi2⟩:=info_parts Vs
 have hmx:Tryz.prog.follows .mixedOrders=true:=by kernel_rfl
 obtain⟨w2,hw2⟩:∃w2,w2=w.alloc (.cells #[.slice none 0 0] 52):=⟨_,rfl⟩
 have hz2:w2.heap.size=w.heap.size+1:=by rw[hw2];simp
 obtain⟨w3,hw3⟩:∃w3,w3=w2.alloc (.cells #[.pointer (some ⟨b,0,none⟩)] 31):=⟨_,rfl⟩
 have hz3:w3.heap.size=w.heap.size+2:=by rw[hw3];simp;omega
 have b2:Below w.heap.size w w2:=by rw[hw2];exact(Below.refl _ _).alloc (Nat.le_refl _) _
 have b3:Below w2.heap.size w2 w3:=by rw[hw3];exact(Below.refl _ _).alloc (Nat.le_refl _) _
 have x2:w2.heap[w.heap.size]? =some (.cells #[.slice none 0 0] 52 (0,0)):=by rw[hw2];exact heap_alloc_new _ _
 have x3:w3.heap[w2.heap.size]? =some (mX b):=by rw[hw3];exact heap_alloc_new _ _
 rw[hz2]at x3
 have R3:Hid (xS w b P L (1,P,L) w3):=Lib.hid ⟨rfl,b2.trans (b3.mono (by omega)),x3,_,(b3.block _ (by omega)).trans x2,by simp only;rw[Vb h.good];exact World.ownsRow_nil _ _ _ _⟩
 have X3:=Lib.hid x3
 have H:=Lib.hid h
 clear x2 x3 b2 b3 h
 refine(callsIn_wide (n:=10)).1 ?_
 refine callsIn_of_wp_marks Tryz.func62 rfl trivial ?_ rfl
 simp only[Tryz.ntmps62,List.size_toArray,List.length_cons,List.length_nil,Nat.reduceAdd,Nat.reduceSub,Array.replicate_succ,Array.replicate_zero,List.push_toArray,List.append_toArray,List.nil_append,List.cons_append]
 gi_wp2
 refine⟨trivial,?_⟩
 refine(callsIn_wide.2 (sI b m w H.out.c1)).mono ?_
 rintro e w' ⟨rfl,rfl⟩
 gi_wp2
 refine⟨trivial,?_⟩
 rw[←hw2]
 clear hw2
 refine(callsIn_wide.2 (Na _ _)).mono ?_
 rintro e w' ⟨rfl,rfl⟩
 gi_wp2
 rw[←hw3]
 clear hw3
 refine qC (T:=76) (gf:=174) (lb:=#[.pointer (some ⟨w.heap.size+1,0,none⟩)]) rfl (enters Tryz.func174 rfl rfl) (Vj 76 b m (w.heap.size+1) n w3 X3.out)
  (fun k hk=>⟨by omega,rfl⟩) (Nat.le_refl _) (by intro _;rfl)
  (xS w b P L) (fun _ _=>False)
  (fun s V V' hh hs=>hh.stay (by omega) hs) (fun _ _ _ hh _=>hh)
  (fun s V hh=>by
   obtain⟨j,P',L'⟩:=s
   have e:=hh.eq
   simp only[Prod.mk.injEq]at e
   obtain⟨rfl,rfl⟩:=e
   exact H.out.later hh.gG)
  (1,P,L) rfl R3.out
  (fun x a' _=>a'={ tmps:=#[.pointer (some ⟨b,0,none⟩),undef, .slice none 0 0, .pointer (some ⟨w.heap.size,0,none⟩), .pointer (some ⟨x,0,none⟩), .pointer (some ⟨b,0,none⟩), .bool true, .bool false, .pointer (some ⟨b,0,none⟩), .func (.func 174) #[] #[.pointer (some ⟨w.heap.size+1,0,none⟩)], .pointer (some ⟨x,0,none⟩),undef,undef,undef,undef,undef,undef,undef],defers:=[] })
  (fun _ _ _ _ _ _ hs _ _=>hs)
  ?assign ?body ?pass ?done ?stop
 case assign=>
  rintro l' s x V C hI hzv hC
  dsimp only[Ef]
  gi_wp2
  exact hC _ _ (aW.refl _ _ _ _) hI rfl
 case body=>
  rintro l' ⟨j,P',L'⟩ p a' V hI hzv ⟨hr,hp⟩ rfl
  have e:=hI.eq
  simp only[Prod.mk.injEq]at e
  obtain⟨rfl,rfl⟩:=e
  simp only at hr hp
  obtain⟨x,hx,hpx⟩:=(H.out.later hI.gG).proc hp
  obtain⟨v,hl,ho⟩:=hI.row
  have hlt:=fun k (hk:v.ownBlock=some k)=>ho.lt k hk
  obtain⟨R,hR⟩:∃R,R=jh j L':=⟨_,rfl⟩
  have hRl:R.length≤8:=by rw[hR];exact Vv H.out.good j
  change V.ownsRow w.heap.size 76 4 v (jh j L').length (xR (jh j L'))at ho
  rw[←hR]at ho
  have hpw:p<w.heap.size:=H.out.low p (Or.inr (Or.inr ⟨j,hp⟩))
  have hnx:jh (j+1) L'=R++[x]:=by rw[pG j H.out.good.up,hx,hR];rfl
  obtain⟨x1,x2,x3,x4⟩:=x
  obtain⟨a0,a1,a2,a3, -⟩:=bG hpx
  simp only at a0 a1 a2 a3
  have l0:=cell_of_one hl
  obtain⟨WA,hWA⟩:∃WA,WA=(V.alloc (.cells #[.int .i64 x1, .int .i64 x2, .int .i64 x3, .int .u32 x4] 76)).drew:=⟨_,rfl⟩
  have bw:Below V.heap.size V WA:=by rw[hWA];exact((Below.refl _ _).alloc (Nat.le_refl _) _).drew
  have aU:∀W':World,W'.heap[p]? =some (DT (x1,x2,x3,x4))→W'.cell? ⟨p,0,none⟩=some (.int .i64 x1)∧W'.cell? ⟨p,1,none⟩=some (.int .i64 x2)∧W'.cell? ⟨p,2,none⟩=some (.int .i64 x3)∧W'.cell? ⟨p,3,none⟩=some (.int .u32 x4):=fun W' h1=>⟨(bG h1).1,(bG h1).2.1,(bG h1).2.2.1,(bG h1).2.2.2.1⟩
  have SD:Hid (V.drew.cell? ⟨p,0,none⟩=some (.int .i64 x1)∧V.drew.cell? ⟨p,1,none⟩=some (.int .i64 x2)∧V.drew.cell? ⟨p,2,none⟩=some (.int .i64 x3)∧V.drew.cell? ⟨p,3,none⟩=some (.int .u32 x4)):=Lib.hid (aU V.drew hpx)
  have SA:=Lib.hid (aU WA (below_block bw hpx))
  have OA:=Lib.hid (gN ho bw)
  have Bh:=Lib.hid (Vu V x1 x2 x3 x4)
  have ZA:Hid (w.heap.size≤WA.heap.size):=Lib.hid (by have:=bw.size;omega)
  have s0:WA.cell? ⟨w.heap.size,0,none⟩=some v:=cell_of_one (below_block bw hl)
  have hlb:=lt_of_block hl
  have aeP:v.ownBlock≠some w.heap.size:=fun hg=>by
   obtain⟨cs,hcs⟩:=bF ho hg
   rw[hl]at hcs
   exact absurd (show(some 52:Option Nat)=some 76 from congrArg kindOf (Option.some.inj hcs)) (by decide)
  have Zp:Hid (∀w4,WA.grownBy w4 v.ownBlock→w4.heap[w.heap.size]? =some (.cells #[v] 52 (0,0))):=Lib.hid (fun w4 hg=>(hg.block _ (lt_of_block (below_block bw hl)) (fun e=>aeP e.symm)).trans (below_block bw hl))
  have Zq:Hid (∀w4,WA.grownBy w4 v.ownBlock→w4.heap[p]? =some (DT (x1,x2,x3,x4))):=Lib.hid (fun w4 hg=>(hg.block _ (lt_of_block (below_block bw hpx)) (fun e=>by have:=(hlt p e.symm).1;omega)).trans (below_block bw hpx))
  have S4:Hid (∀w4,WA.grownBy w4 v.ownBlock→w4.cell? ⟨p,0,none⟩=some (.int .i64 x1)∧w4.cell? ⟨p,1,none⟩=some (.int .i64 x2)∧w4.cell? ⟨p,2,none⟩=some (.int .i64 x3)∧w4.cell? ⟨p,3,none⟩=some (.int .u32 x4)):=Lib.hid (fun w4 hg=>aU w4 (Zq.out w4 hg))
  have S5:Hid (∀w4,WA.grownBy w4 v.ownBlock→∀u,(w4.setCell ⟨w.heap.size,0,none⟩ u).cell? ⟨p,0,none⟩=some (.int .i64 x1)∧(w4.setCell ⟨w.heap.size,0,none⟩ u).cell? ⟨p,1,none⟩=some (.int .i64 x2)∧(w4.setCell ⟨w.heap.size,0,none⟩ u).cell? ⟨p,2,none⟩=some (.int .i64 x3)∧(w4.setCell ⟨w.heap.size,0,none⟩ u).cell? ⟨p,3,none⟩=some (.int .u32 x4)):=Lib.hid (fun w4 hg u=>aU _ ((Below.heap_setCell _ _ _ _ (by simp only;omega)).trans (Zq.out w4 hg)))
  have HI:=Lib.hid hI
  have HLT:=Lib.hid hlt
  have OV:=Lib.hid ho
  have HNX:=Lib.hid hnx
  have FIN:Hid (∀u w4,w4.ownsRow w.heap.size 76 4 u (R.length+1) (xR R++[.int .i64 x1, .int .i64 x2, .int .i64 x3, .int .u32 x4])→WA.grownBy w4 v.ownBlock→aW 76 (fun k=>k=w.heap.size+1) w3.heap.size V (w4.setCell ⟨w.heap.size,0,none⟩ u)∧∃s',(Vi b m n).Nx (j,P',L') s'∧xS w b P' L' s' (w4.setCell ⟨w.heap.size,0,none⟩ u)):=Lib.hid (fun u w4 ho4 hg4=>by
   have l4:=Zp.out w4 hg4
   have o1:Only V (w4.setCell ⟨w.heap.size,0,none⟩ u) (fun k=>k=w.heap.size∨v.ownBlock=some k):=((Only.below bw).trans ⟨hg4.os,hg4.tape,hg4.output,hg4.size,fun i hi hB=>hg4.block i hi (fun e=>hB (Or.inr e.symm))⟩).trans (Only.grown (grownBy_setCell _ _ _ _) (Or.inl rfl))
   have o5:(w4.setCell ⟨w.heap.size,0,none⟩ u).ownsRow w.heap.size 76 4 u (R.length+1) (xR R++[.int .i64 x1, .int .i64 x2, .int .i64 x3, .int .u32 x4]):=iU (B:=fun k=>k=w.heap.size) ho4 (Only.grown (grownBy_setCell _ _ _ _) rfl) (fun g hg e=>by
    obtain⟨cs,hcs⟩:=bF ho4 hg
    rw[e,l4]at hcs
    exact absurd (show(some 52:Option Nat)=some 76 from congrArg kindOf (Option.some.inj hcs)) (by decide))
   have I:=HI.out
   refine⟨aW.only o1 (fun k hk e=>?_) (fun k o hk hko hB=>?_),(j+1,P',L'),rfl,?_⟩
   ·rcases hk with hk|hk
    ·omega
    ·obtain⟨cs,hcs⟩:=bF OV.out hk
     rw[e,I.Eh]at hcs
     exact absurd (show(some 31:Option Nat)=some 76 from congrArg kindOf (Option.some.inj hcs)) (by decide)
   ·rcases hk with hk|hk
    ·omega
    ·obtain⟨cs,hcs⟩:=bF OV.out hk
     rw[hko]at hcs
     rw[Option.some.inj hcs]
     rfl
   ·refine⟨rfl,Only.old I.gG o1 I.gG.size (fun k hk=>?_),o1.kept I.Eh ?_,u,heap_setCell_same _ _ 0 _ _ _ l4,?_⟩
    ·rcases hk with hk|hk
     ·omega
     ·exact(HLT.out k hk).1
    ·rintro(e|e)
     ·omega
     ·obtain⟨cs,hcs⟩:=bF OV.out e
      rw[I.Eh]at hcs
      exact absurd (show(some 31:Option Nat)=some 76 from congrArg kindOf (Option.some.inj hcs)) (by decide)
    ·simp only[HNX.out]
     rw[List.length_append,JL,Vt]
     exact o5)
  clear bw aU Zq a0 a1 a2 a3 hx hpx hnx aeP hp hI hlt ho hR hl
  rw[hWA]at SA OA ZA s0 Zp S4 S5 FIN
  clear hWA
  gi_wp2
  refine Bn (S:=fun w'=>w'.cell? ⟨p,0,none⟩=some (.int .i64 x1)∧w'.cell? ⟨p,1,none⟩=some (.int .i64 x2)∧w'.cell? ⟨p,2,none⟩=some (.int .i64 x3)∧w'.cell? ⟨p,3,none⟩=some (.int .u32 x4)) hmx (by rfl) (fun⟨_,_,h⟩=>h) (by exact SD.out) (fun hHeld=>?_)
  refine wpAnyH_take (i:=1) (oi:=_) (v:= .pointer (some ⟨p,0,none⟩)) rfl (by kernel_rfl) (by kernel_rfl) (by kernel_rfl) (fun _ _ _ h=>h) (Or.inl ⟨by rfl,?_⟩) (by assumption) ?_
  ·intro w hSw
   try dsimp only at hSw
   go_split_ands
   go_simp
  try simp only[Act.put,List.getElem_toArray,List.getElem_cons_zero,List.getElem_cons_succ,List.setIfInBounds_toArray,List.set_cons_zero,List.set_cons_succ]
  refine wpAnyH_take (i:=2) (oi:=_) (v:= .pointer (some ⟨p,0,none⟩)) rfl (by kernel_rfl) (by kernel_rfl) (by kernel_rfl) (fun _ _ _ h=>h) (Or.inl ⟨by rfl,?_⟩) (by assumption) ?_
  ·intro w hSw
   try dsimp only at hSw
   go_split_ands
   go_simp
  try simp only[Act.put,List.getElem_toArray,List.getElem_cons_zero,List.getElem_cons_succ,List.setIfInBounds_toArray,List.set_cons_zero,List.set_cons_succ]
  refine wpAnyH_take (i:=3) (oi:=_) (v:= .agg #[.int .i64 x1, .int .i64 x2, .int .i64 x3, .int .u32 x4]) rfl (by kernel_rfl) (by kernel_rfl) (by kernel_rfl) (fun _ _ _ h=>h) (Or.inl ⟨by rfl,?_⟩) (by assumption) ?_
  ·intro w hSw
   try dsimp only at hSw
   go_split_ands
   go_simp
  try simp only[Act.put,List.getElem_toArray,List.getElem_cons_zero,List.getElem_cons_succ,List.setIfInBounds_toArray,List.set_cons_zero,List.set_cons_succ]
  refine wpAnyH_ready (rs:=[0,4]) (by kernel_rfl) (by simp) ?_
  refine AllReadyH.cons (o:=_) rfl (fun K hK=>?_) (AllReadyH.cons (o:=_) rfl (fun K hK=>?_) AllReadyH.nil)
  ·go_simp
   refine hK.out _ _ (by exact SD.out) (fun hHeld=>?_)
   clear hK K
   try simp only[Act.put,List.getElem_toArray,List.getElem_cons_zero,List.getElem_cons_succ,List.setIfInBounds_toArray,List.set_cons_zero,List.set_cons_succ]
   refine wpAnyH_ready (rs:=[4]) (by kernel_rfl) (by simp) ?_
   refine AllReadyH.cons (o:=_) rfl (fun K hK=>?_) AllReadyH.nil
   go_simp
   refine hK.out _ _ (by exact SA.out) (fun hHeld=>?_)
   clear hK K
   try simp only[Act.put,List.getElem_toArray,List.getElem_cons_zero,List.getElem_cons_succ,List.setIfInBounds_toArray,List.set_cons_zero,List.set_cons_succ]
   refine wpAnyH_ready (rs:=[5]) (by kernel_rfl) (by simp) ?_
   refine AllReadyH.cons (o:=_) rfl (fun K hK=>?_) AllReadyH.nil
   refine step_append_lies _ (by rfl) _ _ _ (by rfl) w.heap.size 76 ie _ 4 32 Tryz.underlying52 hi hi0 hi1 hi2 rfl (by omega) v R.length (xR R) (by rfl) OA.out ⟨V.heap.size,0,none⟩ 1 1 [.int .i64 x1, .int .i64 x2, .int .i64 x3, .int .u32 x4] (by rfl) (by rfl) Bh.out (by simp[Value.oneCell']) (by omega) (by unfold maxLen;omega) (by omega) ZA.out (V.heap.size+1) (by simp) ?_
   intro gg cap w4 ho hg _ _
   have hb4:=Zp.out w4 hg
   have hS4:=S4.out w4 hg
   have OO:=Lib.hid ho
   have GG:=Lib.hid hg
   have B4:=Lib.hid hb4
   have y1:=cell_of_one hb4
   have f1:=free_of_one hb4
   clear ho hg hb4
   try simp only[Act.put,List.getElem_toArray,List.getElem_cons_zero,List.getElem_cons_succ,List.setIfInBounds_toArray,List.set_cons_zero,List.set_cons_succ]
   refine hK.out _ _ (by exact hS4) (fun hHeld=>?_)
   clear hK K
   try simp only[Act.put,List.getElem_toArray,List.getElem_cons_zero,List.getElem_cons_succ,List.setIfInBounds_toArray,List.set_cons_zero,List.set_cons_succ]
   refine wpAnyH_ready (rs:=[6]) (by kernel_rfl) (by simp) ?_
   refine AllReadyH.cons (o:=_) rfl (fun K hK=>?_) AllReadyH.nil
   go_simp
   refine hK.out _ _ (by exact S5.out w4 GG.out _) (fun hHeld=>?_)
   clear hK K
   try simp only[Act.put,List.getElem_toArray,List.getElem_cons_zero,List.getElem_cons_succ,List.setIfInBounds_toArray,List.set_cons_zero,List.set_cons_succ]
   refine wpAnyH_done (by kernel_rfl) ?_ _
   gi_wp2
   exact FIN.out _ w4 OO.out GG.out
  ·go_simp
   refine hK.out _ _ (by exact SA.out) (fun hHeld=>?_)
   clear hK K
   try simp only[Act.put,List.getElem_toArray,List.getElem_cons_zero,List.getElem_cons_succ,List.setIfInBounds_toArray,List.set_cons_zero,List.set_cons_succ]
   refine wpAnyH_ready (rs:=[0]) (by kernel_rfl) (by simp) ?_
   refine AllReadyH.cons (o:=_) rfl (fun K hK=>?_) AllReadyH.nil
   go_simp
   refine hK.out _ _ (by exact SA.out) (fun hHeld=>?_)
   clear hK K
   try simp only[Act.put,List.getElem_toArray,List.getElem_cons_zero,List.getElem_cons_succ,List.setIfInBounds_toArray,List.set_cons_zero,List.set_cons_succ]
   refine wpAnyH_ready (rs:=[5]) (by kernel_rfl) (by simp) ?_
   refine AllReadyH.cons (o:=_) rfl (fun K hK=>?_) AllReadyH.nil
   refine step_append_lies _ (by rfl) _ _ _ (by rfl) w.heap.size 76 ie _ 4 32 Tryz.underlying52 hi hi0 hi1 hi2 rfl (by omega) v R.length (xR R) (by rfl) OA.out ⟨V.heap.size,0,none⟩ 1 1 [.int .i64 x1, .int .i64 x2, .int .i64 x3, .int .u32 x4] (by rfl) (by rfl) Bh.out (by simp[Value.oneCell']) (by omega) (by unfold maxLen;omega) (by omega) ZA.out (V.heap.size+1) (by simp) ?_
   intro gg cap w4 ho hg _ _
   have hb4:=Zp.out w4 hg
   have hS4:=S4.out w4 hg
   have OO:=Lib.hid ho
   have GG:=Lib.hid hg
   have B4:=Lib.hid hb4
   have y1:=cell_of_one hb4
   have f1:=free_of_one hb4
   clear ho hg hb4
   try simp only[Act.put,List.getElem_toArray,List.getElem_cons_zero,List.getElem_cons_succ,List.setIfInBounds_toArray,List.set_cons_zero,List.set_cons_succ]
   refine hK.out _ _ (by exact hS4) (fun hHeld=>?_)
   clear hK K
   try simp only[Act.put,List.getElem_toArray,List.getElem_cons_zero,List.getElem_cons_succ,List.setIfInBounds_toArray,List.set_cons_zero,List.set_cons_succ]
   refine wpAnyH_ready (rs:=[6]) (by kernel_rfl) (by simp) ?_
   refine AllReadyH.cons (o:=_) rfl (fun K hK=>?_) AllReadyH.nil
   go_simp
   refine hK.out _ _ (by exact S5.out w4 GG.out _) (fun hHeld=>?_)
   clear hK K
   try simp only[Act.put,List.getElem_toArray,List.getElem_cons_zero,List.getElem_cons_succ,List.setIfInBounds_toArray,List.set_cons_zero,List.set_cons_succ]
   refine wpAnyH_done (by kernel_rfl) ?_ _
   gi_wp2
   exact FIN.out _ w4 OO.out GG.out
 case pass=>
  rintro⟨j,P',L'⟩ ⟨j',P2,L2⟩ V hI ⟨⟨he,he2⟩, -,hn⟩
  have e:=hI.eq
  simp only[Prod.mk.injEq]at e
  obtain⟨rfl,rfl⟩:=e
  simp only at he he2 hn
  subst he
  cases he2
  have hx:=H.out.none_ hn
  refine⟨rfl,hI.gG,hI.Eh,?_⟩
  simp only
  rw[pG j H.out.good.up,hx]
  simpa using hI.row
 case done=>
  rintro D ⟨j,P',L'⟩ V hD hf hI qx
  have e:=hI.eq
  simp only[Prod.mk.injEq]at e
  obtain⟨rfl,rfl⟩:=e
  have hj:j=n+1:=hf
  subst hj
  obtain⟨v,hl,ho⟩:=hI.row
  have l0:=cell_of_one hl
  simp only at ho
  rw[Ve H.out.good]at ho
  have HB:=Lib.hid (hI.gG.trans (fB w.heap.size V D (.deferred none) (by omega)))
  have HO:=Lib.hid (sK ho (eX.put (T:=76) (B:=w.heap.size) (.deferred none) qx (by simp[kindOf]) (by omega)))
  clear hI hl ho
  gi_wp2
  refine⟨by simp, .inl ⟨_,_,rfl,run_takeDeferred qx,?_⟩⟩
  refine⟨v,?_,v,rfl,HO.out,HB.out⟩
  simp[results,Tryz.results62,go_sem]
 case stop=>
  rintro D c V hD hh qx
  exact hh.elim
end Go.Proofs.YtammlljefhakmaaGreatDoor
namespace Go.Proofs.YtammlljefhakmaaGreatDoor
open Go.RowKit Go.Maps
set_option maxRecDepth 100000
theorem TabAt.Zu{w:World}{b m:Nat}{n:Int}{P:Pt}{L:List Nd}(h:TabAt w b m n P L){i:Int}{x:Nd}(hx:x∈L)(hi:x.1=i):∃p,P i=some p:=by
 obtain⟨p,hp, -⟩:=h.inn i x (hi▸dI h.good.up hx)
 exact⟨p,hp⟩
theorem Ru.of{w w':World}{b m:Nat}{n:Int}{P P':Pt}{L:List Nd}(h:TabAt w' b m n P' L)(hp:∀id p,P' id=some p→P id=some p∨w.heap.size≤p)(ho:Only w w' (tB m P)):Ru w w' b m n P L:=⟨⟨P',h,hp⟩,ho⟩
set_option maxHeartbeats 4000000 in
theorem Zv{w:World}{b m:Nat}{n:Int}{P:Pt}{L:List Nd}(h:TabAt w b m n P L)(parent:Int)(hi:I64 parent):
  Calls Tryz.prog 88 #[.pointer (some ⟨b,0,none⟩), .int .i64 parent] w fun e w'=>e= .returned (.tuple #[.int .i64 (wF n L parent), .int .i64 (l6 n L parent)])∧Ru w w' b m n P (jd n L parent):=by
 have ST:=Lib.hid (fun w' (hb:Below w.heap.size w w')=>Ru.stay h hb)
 cases hp:P parent with
 |none=>
  have e4:l6 n L parent=4:=by unfold l6;rw[h.none_ hp]
  have eP:wF n L parent=0:=by unfold wF;rw[e4];rfl
  have eL:jd n L parent=L:=by unfold jd;rw[e4];rfl
  rw[e4,eP,eL]
  have H:=Lib.hid h
  have HP:=Lib.hid hp
  clear h hp e4 eP eL
  go_enter Tryz.func88,Tryz.ntmps88
  go_wp2_with fail
  refine(qE H.out hi HP.out).mono ?_
  rintro e w' ⟨rfl,rfl⟩
  go_wp2
  go_ret2
  exact⟨rfl,ST.out _ (Below.refl _ _)⟩
 | some p=>
  obtain⟨x,hx,hpx⟩:=h.proc hp
  obtain⟨a0,a1,a2,a3, -⟩:=bG hpx
  have H:=Lib.hid h
  have HP:=Lib.hid hp
  by_cases h3:x.2.2.1=3
  ·have e9:l6 n L parent=9:=by unfold l6;rw[hx];simp only;rw[if_pos h3]
   have eP:wF n L parent=0:=by unfold wF;rw[e9];rfl
   have eL:jd n L parent=L:=by unfold jd;rw[e9];rfl
   rw[e9,eP,eL]
   rw[h3]at a2
   clear h hp hx hpx h3 e9 eP eL
   go_enter Tryz.func88,Tryz.ntmps88
   go_wp2_with fail
   refine(fM H.out hi HP.out).mono ?_
   rintro e w' ⟨rfl,rfl⟩
   go_wp2
   go_ret2
   exact⟨rfl,ST.out _ (Below.refl _ _)⟩
  ·have hb3:(x.2.2.1==3)=false:=by simpa using h3
   have hlen:=Vg (w:=w.drew) (h.map.same rfl)
   have c0:=h.c0
   have c1:=h.c1
   by_cases hfull:(L.length:Int)=n
   ·have e3:l6 n L parent=3:=by unfold l6;rw[hx];simp only;rw[if_neg h3,if_pos hfull]
    have eP:wF n L parent=0:=by unfold wF;rw[e3];rfl
    have eL:jd n L parent=L:=by unfold jd;rw[e3];rfl
    have hbf:((L.length:Int)==n)=true:=by simpa using hfull
    rw[e3,eP,eL]
    clear h hp hx hpx h3 e3 eP eL hfull
    generalize x.2.2.1=u at*
    generalize(L.length:Int)=k at*
    go_enter Tryz.func88,Tryz.ntmps88
    go_wp2_with fail
    refine(fM H.out hi HP.out).mono ?_
    rintro e w' ⟨rfl,rfl⟩
    go_wp2
    go_region
    all_goals
     go_wp2
     go_ret2
     exact⟨rfl,ST.out _ (Below.refl _ _).drew⟩
   ·have e0:l6 n L parent=0:=by unfold l6;rw[hx];simp only;rw[if_neg h3,if_neg hfull]
    have eP:wF n L parent=aG 1 L:=by unfold wF;rw[if_pos e0]
    have eL:jd n L parent=jF (aG 1 L,parent,1,0) L:=by unfold jd;rw[if_pos e0]
    have hbf:((L.length:Int)==n)=false:=by simpa using hfull
    obtain⟨⟨hf1,hf2⟩,hf3⟩:=h.good.free hfull
    have hfs:=(vC (k:=1) h.good.up (fun p hp=>(h.good.ok p hp).1.1)).2.2.1
    have hn8:=h.good.most.2
    have hpar:=(h.good.at_ hx).1
    rw[e0,eP,eL]
    have H2:=Lib.hid (h.later (Below.refl _ _).drew)
    obtain⟨F,hF⟩:∃F,F=aG 1 L:=⟨_,rfl⟩
    rw[←hF]at hf1 hf2 hf3 hfs ⊢
    have HFS:=Lib.hid hfs
    have HF3:=Lib.hid hf3
    have HNF:=Lib.hid (show P F=none from h.out F (dZ.2 hf3))
    have c0d:=H2.out.c0
    have c1d:=H2.out.c1
    clear h hp hx hpx h3 e0 eP eL hfull hfs hf3 hF ST
    generalize x.2.2.1=u at*
    generalize hk:(L.length:Int)=k at*
    go_enter Tryz.func88,Tryz.ntmps88
    go_wp2_with fail
    refine(fM H.out hi HP.out).mono ?_
    rintro e w' ⟨rfl,rfl⟩
    go_wp2
    go_region
    all_goals
     clear hlen hk
     obtain⟨w1,hw1⟩:∃w1,w1=w.drew:=⟨_,rfl⟩
     have B1:Hid (Below w.heap.size w w1):=Lib.hid (by rw[hw1];exact(Below.refl _ _).drew)
     have T1:Hid (TabAt w1 b m n P L):=Lib.hid (by rw[hw1];exact H2.out)
     try rw[←hw1]
     clear c0d c1d c0 c1 a0 a1 a2 a3 H2 hw1
     have c1:=T1.out.c1
     go_wp2
     go_loopw [8] (fun i wr=>∃j:Int,i= .int .i64 j∧(1≤j∧j≤F)∧wr=w1) (fun i _=>(F+1-intOf i).toNat)
     case atStart=>exact⟨1,rfl,⟨by decide,hf1⟩,rfl⟩
     case round=>
      obtain⟨j,rfl,⟨hj1,hj2⟩,rfl⟩:=hrel
      by_cases hlt:j<F
      ·obtain⟨y,hy,hyj⟩:=HFS.out j hj1 hlt
       obtain⟨q,hq⟩:=T1.out.Zu hy hyj
       have hl:=Rt T1.out.map (y:=j) (by omega) hq
       clear hy hyj hq
       go_wp2
       go_roundw
       case rel=>exact⟨j+1,by go_num,⟨by omega,by omega⟩,by trivial⟩
       case measure=>simp[intOf];omega
      ·obtain rfl:j=F:=by omega
       have hl:=Rs T1.out.map (y:=j) (by omega) HNF.out
       go_wp2_with fail
       refine(JI b m L.length P j parent _ T1.out.c1 T1.out.map (by omega) HNF.out).mono ?_
       rintro e w2 ⟨rfl,t1,t2,t3⟩
       have TT:=Lib.hid (T1.out.put (x:=(j,parent,1,0)) HF3.out ⟨⟨hf1,hf2⟩,⟨by simp only;omega,by simp only;omega⟩,(show(1:Int)≤1∧(1:Int)≤3 by decide),(show(0:Int)≤0∧(0:Int)≤4294967295 by decide)⟩ t1 t2 t3)
       have OO:=Lib.hid (Only.grown (B:=tB m P) t3 (Or.inl rfl))
       clear t1 t2 t3
       go_wp2
       go_ret2
       refine⟨rfl,Ru.of TT.out (fun id p e=>?_) ((Only.below B1.out).trans OO.out)⟩
       unfold gX at e
       split at e
       ·cases e;exact Or.inr B1.out.size
       ·exact Or.inl e
end Go.Proofs.YtammlljefhakmaaGreatDoor
namespace Go.Proofs.YtammlljefhakmaaGreatDoor
open Go.RowKit Go.Shelf Go.Maps
attribute [local go_sem] Oper.semAt_some
set_option maxRecDepth 100000
theorem Vw(p:Option Addr)(pid c:Int)(w:World)(h:JG w p):Calls Tryz.prog 52 #[.pointer p, .int .i64 pid, .int .u32 c] w fun e w'=>e= .returned (.tuple #[.slice none 0 0, .int .i64 1])∧w=w':=by
 go_enter Tryz.func52,Tryz.ntmps52
 go_wp2_with fail
 refine(JH p pid w h).mono ?_
 rintro e w' ⟨rfl,rfl⟩
 go_wp2
 go_ret2
 exact⟨rfl,rfl⟩
def upTo(pid j:Int)(x:Nd):Nd:=if x.1<j then fP pid 1 x else x
theorem wG(pid j:Int)(x:Nd):(upTo pid j x).1=x.1:=by unfold upTo;split;{ exact kC pid 1 x };rfl
theorem JM{n pid:Int}{M:List Nd}(h:aL n M):M.map (upTo pid 1)=M:=by
 conv=>rhs;rw[←List.map_id M]
 refine List.map_congr_left fun x hx=>?_
 have:=(h.ok x hx).1
 unfold upTo
 rw[if_neg (by omega)]
 rfl
theorem Vx{n pid:Int}{M:List Nd}(h:aL n M):M.map (upTo pid (n+1))=M.map (fP pid 1):=by
 refine List.map_congr_left fun x hx=>?_
 have:=(h.ok x hx).1
 unfold upTo
 rw[if_pos (by omega)]
theorem zD{pid j i:Int}{M:List Nd}(h:j≤i):aD i (M.map (upTo pid j))=aD i M:=by
 rw[bC (wG pid j)]
 cases e:aD i M with
 |none=>rfl
 |some x=>
  have:=(aj e).2
  simp only[Option.map_some]
  unfold upTo
  rw[if_neg (by omega)]
theorem Ei{pid j:Int}{M:List Nd}{x:Nd}(h:aD j M=some x):aD j (M.map (upTo pid (j+1)))=some (fP pid 1 x):=by
 rw[bC (wG pid (j+1)),h]
 have:=(aj h).2
 simp only[Option.map_some]
 unfold upTo
 rw[if_pos (by omega)]
theorem Bt{pid j i:Int}{M:List Nd}(h:i≠j):aD i (M.map (upTo pid (j+1)))=aD i (M.map (upTo pid j)):=by
 rw[bC (wG pid (j+1)),bC (wG pid j)]
 cases e:aD i M with
 |none=>rfl
 |some x=>
  have:=(aj e).2
  simp only[Option.map_some]
  unfold upTo
  by_cases c:x.1<j
  ·rw[if_pos (by omega),if_pos c]
  ·rw[if_neg (by omega),if_neg c]
theorem Ry{pid j:Int}{M:List Nd}(h:∀x∈M,x.1=j→x.2.1≠pid):M.map (upTo pid (j+1))=M.map (upTo pid j):=by
 refine List.map_congr_left fun x hx=>?_
 unfold upTo
 by_cases c:x.1=j
 ·rw[if_pos (by omega),if_neg (by omega)]
  unfold fP
  rw[if_neg (h x hx c)]
 ·by_cases c2:x.1<j
  ·rw[if_pos (by omega),if_pos c2]
  ·rw[if_neg (by omega),if_neg c2]
theorem aL.upTo{n:Int}{M:List Nd}(h:aL n M)(pid j:Int):aL n (M.map (upTo pid j)):=
 h.map (wG pid j) fun p _ hp=>by
  unfold Proofs.YtammlljefhakmaaGreatDoor.upTo
  split
  ·unfold Proofs.YtammlljefhakmaaGreatDoor.fP
   split
   ·exact⟨hp.1,(show(0:Int)≤1∧(1:Int)≤8 by decide),hp.2.2⟩
   ·exact hp
  ·exact hp
theorem Ej{L:List Nd}{j c:Int}{x:Nd}(h:aD j L=some x):aD j (L.map (oC j c))=some (x.1,x.2.1,3,c):=by
 rw[bC (wE j c),h]
 have:=(aj h).2
 simp[oC,this]
theorem Bu{L:List Nd}{j c i:Int}(hi:i≠j):aD i (L.map (oC j c))=aD i L:=by
 rw[bC (wE j c)]
 cases e:aD i L with
 |none=>rfl
 |some x=>
  have:=(aj e).2
  simp[oC,show ¬x.1=j by omega]
structure Rz(w:World)(b m:Nat)(n:Int)(P:Pt)(pid:Int)(M:List Nd)(s:JJ)(V:World):Prop where
 eq:s.2=(P,M.map (upTo pid s.1))
 tab:TabAt V b m n P (M.map (upTo pid s.1))
 low:Bp w.heap.size b m P
 only:Only w V (tB m P)
theorem Rz.stay{w:World}{b m:Nat}{n:Int}{P:Pt}{pid:Int}{M:List Nd}{s:JJ}{V V':World}(h:Rz w b m n P pid M s V){B:Nat}(hB:w.heap.size≤B)(hs:Below B V V'):Rz w b m n P pid M s V':=
 ⟨h.eq,h.tab.step hs (fun k hk=>by have:=h.low k hk;omega),h.low,
  ⟨hs.os.trans h.only.os,hs.tape.trans h.only.tape,hs.output.trans h.only.output,Nat.le_trans h.only.size hs.size,fun k hk hn=>(hs.block k (by omega)).trans (h.only.block k hk hn)⟩⟩
def JO(w:World)(b m:Nat)(n:Int)(P:Pt)(er:Int)(L':List Nd)(R:List Rp)(e:Ending)(w':World):Prop:=
 (∃v,e= .returned (.tuple #[v, .int .i64 er])∧w'.ownsRow w.heap.size 194 3 v R.length (Ac R))∧Ru w w' b m n P L'
theorem JO.none_{w w':World}{b m:Nat}{n:Int}{P:Pt}{L:List Nd}(h:TabAt w b m n P L)(er:Int)(hb:Below w.heap.size w w'):JO w b m n P er L [] (.returned (.tuple #[.slice none 0 0, .int .i64 er])) w':=
 ⟨⟨_,rfl,World.ownsRow_nil _ _ _ _⟩,Ru.stay h hb⟩
theorem TabAt.ah1{V:World}{b m:Nat}{n:Int}{P:Pt}{L:List Nd}(h:TabAt V b m n P L){D:Nat}{x:Option (List Deferred)}(o:Obj)(hD:V.heap[D]? =some (.deferred x)):TabAt (V.putObj D o) b m n P L:=by
 refine h.kept (World.putObj_heap_other ?_) fun k hk=>World.putObj_heap_other ?_
 ·rintro rfl
  have:=h.box
  rw[hD]at this
  cases this
 ·rintro rfl
  rcases hk with rfl|⟨id,hp⟩
  ·obtain⟨es,ck,hm⟩:=h.map.isMap
   rw[hD]at hm
   cases hm
  ·obtain⟨x,_,h2⟩:=h.proc hp
   rw[hD]at h2
   cases h2
set_option maxHeartbeats 8000000 in
theorem Vy{w:World}{b m:Nat}{n:Int}{P:Pt}{L:List Nd}(h:TabAt w b m n P L)(pid c:Int)(hi:I64 pid)(hc:0≤c∧c≤4294967295):
  Calls Tryz.prog 52 #[.pointer (some ⟨b,0,none⟩), .int .i64 pid, .int .u32 c] w (JO w b m n P (eY L pid) (iA n L pid c) (jR n L pid c)):=by
 cases hp:P pid with
 |none=>
  have e4:eY L pid=4:=by unfold eY;rw[h.none_ hp]
  have eL:iA n L pid c=L:=by unfold iA;rw[e4];rfl
  have eR:jR n L pid c=[]:=by unfold jR;rw[e4];rfl
  rw[e4,eL,eR]
  have A:=Lib.hid (fun w'=>JO.none_ (w':=w') h 4)
  have H:=Lib.hid h
  have HP:=Lib.hid hp
  clear h hp e4 eL eR
  go_enter Tryz.func52,Tryz.ntmps52
  go_wp2_with fail
  refine(qE H.out hi HP.out).mono ?_
  rintro e w' ⟨rfl,rfl⟩
  go_wp2
  go_ret2
  exact A.out _ (Below.refl _ _)
 | some p=>
  obtain⟨x,hx,hpx⟩:=h.proc hp
  obtain⟨a0,a1,a2,a3,af⟩:=bG hpx
  have H:=Lib.hid h
  have HP:=Lib.hid hp
  by_cases h1:pid=1
  ·have e8:eY L pid=8:=by unfold eY;rw[hx];simp only;rw[if_pos h1]
   have eL:iA n L pid c=L:=by unfold iA;rw[e8];rfl
   have eR:jR n L pid c=[]:=by unfold jR;rw[e8];rfl
   rw[e8,eL,eR]
   have A:=Lib.hid (fun w'=>JO.none_ (w':=w') h 8)
   subst h1
   clear h hp hx hpx e8 eL eR a0 a1 a2 a3 af
   go_enter Tryz.func52,Tryz.ntmps52
   go_wp2_with fail
   refine(fM H.out hi HP.out).mono ?_
   rintro e w' ⟨rfl,rfl⟩
   go_wp2
   go_ret2
   exact A.out _ (Below.refl _ _)
  ·by_cases h3:x.2.2.1=3
   ·have e9:eY L pid=9:=by unfold eY;rw[hx];simp only;rw[if_neg h1,if_pos h3]
    have eL:iA n L pid c=L:=by unfold iA;rw[e9];rfl
    have eR:jR n L pid c=[]:=by unfold jR;rw[e9];rfl
    rw[e9,eL,eR]
    have A:=Lib.hid (fun w'=>JO.none_ (w':=w') h 9)
    rw[h3]at a2
    have hb1:(pid==1)=false:=by simpa using h1
    clear h hp hx hpx e9 eL eR af h3 h1
    go_enter Tryz.func52,Tryz.ntmps52
    go_wp2_with fail
    refine(fM H.out hi HP.out).mono ?_
    rintro e w' ⟨rfl,rfl⟩
    go_wp2
    go_ret2
    exact A.out _ (Below.refl _ _)
   ·have e0:eY L pid=0:=by unfold eY;rw[hx];simp only;rw[if_neg h1,if_neg h3]
    have eL:iA n L pid c=qD n (mQ L pid c):=by unfold iA;rw[if_pos e0]
    have eR:jR n L pid c=vD n (mQ L pid c):=by unfold jR;rw[if_pos e0]
    rw[e0,eL,eR]
    have hb1:(pid==1)=false:=by simpa using h1
    have hb3:(x.2.2.1==3)=false:=by simpa using h3
    obtain⟨w1,hw1⟩:∃w1,w1=(w.setCell ⟨p,2,none⟩ (.int .i64 3)).setCell ⟨p,3,none⟩ (.int .u32 c):=⟨_,rfl⟩
    have g1:w.grownBy w1 (some p):=by rw[hw1];exact grownBy_trans (grownBy_setCell _ _ _ _) (grownBy_setCell _ _ _ _)
    have hz1:w1.heap.size=w.heap.size:=by rw[hw1];simp
    have hp1:w1.heap[p]? =some (DT (x.1,x.2.1,3,c)):=by rw[hw1];exact heap_setCell_same _ _ 3 _ _ _ (heap_setCell_same _ _ 2 _ _ _ hpx)
    have hM:=h.good.oC pid c hc
    have T1:TabAt w1 b m n P (L.map (oC pid c)):=h.turn hp (x':=(x.1,x.2.1,3,c)) hp1 (fun k hk hn=>g1.block k hk (fun e=>hn (Option.some.inj e))) (Ej hx) (fun i hi=>Bu hi) hM (by simp)
    obtain⟨M,hMM⟩:∃M,M=L.map (oC pid c):=⟨_,rfl⟩
    rw[←hMM]at hM T1
    have eM:mQ L pid c=M.map (fP pid 1):=by rw[hMM];rfl
    rw[eM]
    have E1:Rz w b m n P pid M (1,P,M) w1:=⟨by simp only;rw[JM hM],by simp only;rw[JM hM];exact T1,h.low,Only.grown g1 (Or.inr ⟨pid,hp⟩)⟩
    obtain⟨w2,hw2⟩:∃w2,w2=(w1.alloc (.cells #[.pointer (some ⟨b,0,none⟩)] 31)).alloc (.cells #[.pointer (some ⟨p,0,none⟩)] 178):=⟨_,rfl⟩
    have hz2:w2.heap.size=w.heap.size+2:=by rw[hw2];simp;omega
    have b2:Below w1.heap.size w1 w2:=by rw[hw2];exact ak _ _ _
    have x1:w2.heap[w1.heap.size]? =some (mX b):=by rw[hw2];exact heap_alloc2_old _ _ _
    have x2:w2.heap[w1.heap.size+1]? =some (H9 p):=by rw[hw2];exact heap_alloc2_new _ _ _
    rw[hz1]at x1 x2
    have E2:=Lib.hid (E1.stay (by omega) b2)
    have X1:=Lib.hid x1
    have X2:=Lib.hid x2
    have HM:=Lib.hid hM
    have f2:=af 2
    have f3:=af 3
    clear h hp hx hpx h3 h1 e0 eL eR eM hMM x1 x2 b2 E1 T1 g1 hp1 hM af
    generalize x.2.2.1=u at*
    generalize x.2.2.2=u4 at*
    refine(callsIn_wide (n:=20)).1 ?_
    refine callsIn_of_wp_marks Tryz.func52 rfl trivial ?_ rfl
    simp only[Tryz.ntmps52,List.size_toArray,List.length_cons,List.length_nil,Nat.reduceAdd,Nat.reduceSub,Array.replicate_succ,Array.replicate_zero,List.push_toArray,List.append_toArray,List.nil_append,List.cons_append]
    gi_wp2
    refine⟨trivial,?_⟩
    refine(callsIn_wide.2 (fM H.out hi HP.out)).mono ?_
    rintro e w' ⟨rfl,rfl⟩
    gi_wp2
    refine⟨trivial,?_⟩
    rw[←hw1]
    clear hw1
    refine(callsIn_wide.2 (sJ _ _ _)).mono ?_
    rintro e w' ⟨rfl,rfl⟩
    gi_wp2
    rw[←hw2]
    clear hw2
    refine qC (T:=0) (gf:=167) (lb:=#[.pointer (some ⟨w.heap.size,0,none⟩), .pointer (some ⟨w.heap.size+1,0,none⟩)]) rfl (enters Tryz.func167 rfl rfl) (vF (T:=0) (by decide) b m w.heap.size (w.heap.size+1) p n pid w2 X1.out X2.out)
     (fun k hk=>⟨by omega,rfl⟩) (Nat.le_refl _) (by intro _;rfl)
     (Rz w b m n P pid M) (fun _ _=>False)
     (fun s V V' hh hs=>hh.stay (by omega) hs.gG) (fun _ _ _ hh _=>hh)
     (fun s V hh=>by
      obtain⟨j,P',L'⟩:=s
      have e:=hh.eq
      simp only[Prod.mk.injEq]at e
      obtain⟨rfl,rfl⟩:=e
      exact⟨hh.tab,HP.out⟩)
     (1,P,M) rfl E2.out
     (fun x a' _=>a'={ tmps:=#[.pointer (some ⟨b,0,none⟩), .int .i64 pid, .int .u32 c,undef,undef,undef, .slice none 0 0, .int .i64 0, .pointer (some ⟨p,0,none⟩), .int .i64 0, .pointer (some ⟨x,0,none⟩), .tuple #[.pointer (some ⟨p,0,none⟩), .int .i64 0], .pointer (some ⟨b,0,none⟩), .int .i64 pid, .tuple #[.pointer (some ⟨p,0,none⟩), .int .i64 0], .pointer (some ⟨p,0,none⟩), .int .i64 0, .bool false, .int .i64 0, .bool false,undef, .bool false, .int .i64 pid, .bool false, .bool false, .pointer (some ⟨p,0,none⟩), .pointer (some ⟨p,0,none⟩), .pointer (some ⟨p,2,none⟩), .int .i64 u, .bool false, .pointer (some ⟨p,0,none⟩), .pointer (some ⟨p,0,none⟩), .int .u32 c, .pointer (some ⟨p,0,none⟩), .pointer (some ⟨p,2,none⟩), .pointer (some ⟨p,0,none⟩), .pointer (some ⟨p,3,none⟩), .pointer (some ⟨b,0,none⟩), .pointer (some ⟨p,0,none⟩), .func (.func 167) #[] #[.pointer (some ⟨w.heap.size,0,none⟩), .pointer (some ⟨w.heap.size+1,0,none⟩)], .pointer (some ⟨x,0,none⟩),undef,undef,undef,undef,undef],defers:=[] })
     (fun _ _ _ _ _ _ hs _ _=>hs)
     ?assign ?body ?pass ?done ?stop
    case assign=>
     rintro l' s x V C hI hzv hC
     dsimp only[Ef]
     gi_wp2
     exact hC _ _ (aW.refl _ _ _ _) hI rfl
    case body=>
     rintro l' ⟨j,P',L'⟩ q a' V hI hzv ⟨hr,hq,y,hy,hyp⟩ rfl
     have e:=hI.eq
     simp only[Prod.mk.injEq]at e
     obtain⟨rfl,rfl⟩:=e
     simp only at hq hy hr
     have htab:=hI.tab
     simp only at htab
     obtain⟨y',hy',hqy⟩:=htab.proc hq
     obtain rfl:y=y':=by rw[hy]at hy';exact Option.some.inj hy'
     obtain⟨d0,d1,d2,d3,df⟩:=bG hqy
     have g1:=df 1
     have hqw:q<w.heap.size:=hI.low q (Or.inr (Or.inr ⟨j,hq⟩))
     have hyM:aD j M=some y:=by rw[zD (Int.le_refl _)]at hy;exact hy
     have V1:V.grownBy (V.setCell ⟨q,1,none⟩ (.int .i64 1)) (some q):=grownBy_setCell _ _ _ _
     have NX:Rz w b m n P' pid M (j+1,P',M.map (upTo pid (j+1))) (V.setCell ⟨q,1,none⟩ (.int .i64 1)):=
      ⟨rfl,htab.turn hq (x':=(y.1,1,y.2.2)) (heap_setCell_same _ _ 1 _ _ _ hqy) (fun k hk hn=>V1.block k hk (fun e=>hn (Option.some.inj e))) (by rw[Ei hyM];unfold fP;rw[if_pos hyp]) (fun i hi=>Bt hi) (HM.out.upTo pid (j+1)) (by simp),hI.low,hI.only.trans (Only.grown V1 (Or.inr ⟨j,hq⟩))⟩
     have KK:aW 0 (fun k=>k=w.heap.size∨k=w.heap.size+1) w2.heap.size V (V.setCell ⟨q,1,none⟩ (.int .i64 1)):=aW.only (C:=fun k=>k=q) (Only.grown V1 rfl) (fun k hk=>by omega) (fun k o hk _ hB=>by omega)
     have NX:=Lib.hid NX
     have KK:=Lib.hid KK
     clear hI hq hy hy' hqy hyp hyM V1 htab hz1 hz2 df
     gi_wp2
     exact⟨KK.out,(j+1,P',M.map (upTo pid (j+1))),rfl,NX.out⟩
    case pass=>
     rintro⟨j,P',L'⟩ ⟨j',P2,L2⟩ V hI ⟨⟨he,he2⟩, -,hn⟩
     have e:=hI.eq
     simp only[Prod.mk.injEq]at e
     obtain⟨rfl,rfl⟩:=e
     simp only at he he2 hn
     subst he
     cases he2
     have hup:M.map (upTo pid (j+1))=M.map (upTo pid j):=Ry fun x hx hxj=>hn x (by rw[zD (Int.le_refl _),←hxj];exact dI HM.out.up hx)
     exact⟨by simp only;rw[hup],by simp only;rw[hup];exact hI.tab,hI.low,hI.only⟩
    case done=>
     rintro D ⟨j,P',L'⟩ V hD hf hI qx
     have e:=hI.eq
     simp only[Prod.mk.injEq]at e
     obtain⟨rfl,rfl⟩:=e
     have hj:j=n+1:=hf
     subst hj
     have htab:=hI.tab
     simp only[Vx HM.out]at htab
     have HT:=Lib.hid htab
     have HI:=Lib.hid hI
     clear hI htab
     gi_wp2
     refine⟨trivial,?_⟩
     refine(callsIn_wide.2 (ET HT.out)).mono ?_
     rintro e V2 ⟨⟨v,rfl,ho⟩,hto⟩
     have aeQ:∀k,tB m P' k→k≠D:=fun k hk=>by have:=HI.out.low k (Or.inr hk);omega
     have KD2:V2.heap[D]? =some (.deferred (some [])):=hto.only.kept qx (fun hk=>aeQ D hk rfl)
     obtain⟨⟨P2,ht2,hs2⟩,ho2⟩:=hto
     have O3:=Lib.hid (sK (pF ho HI.out.only.size) (eX.put (T:=194) (B:=w.heap.size) (.deferred none) KD2 (by simp[kindOf]) (by omega)))
     have T3:=Lib.hid (ht2.ah1 (.deferred none) KD2)
     have Z3:=Lib.hid hs2
     have W3:Hid (Only w (V2.putObj D (.deferred none)) (tB m P')):=Lib.hid ((HI.out.only.trans ho2).more (C:=fun k=>k=D) ⟨rfl,rfl,rfl,by simp[World.putObj],fun k _ hk=>World.putObj_heap_other hk⟩ (fun k hk=>Or.inr (by omega)))
     clear ho ht2 hs2 ho2
     gi_wp2
     refine⟨by simp, .inl ⟨_,_,rfl,run_takeDeferred KD2,?_⟩⟩
     refine⟨.tuple #[v, .int .i64 0],?_,⟨v,rfl,O3.out⟩,⟨⟨P2,T3.out,fun i q e=>(Z3.out i q e).imp id (fun h=>Nat.le_trans HI.out.only.size h)⟩,W3.out⟩⟩
     simp[results,Tryz.results52,go_sem]
    case stop=>
     rintro D c V hD hh qx
     exact hh.elim
end Go.Proofs.YtammlljefhakmaaGreatDoor
namespace Go.Proofs.YtammlljefhakmaaGreatDoor
open Go.RowKit Go.Maps
set_option maxRecDepth 100000
theorem Vz(p:Option Addr)(pid:Int)(w:World)(h:JG w p):Calls Tryz.prog 59 #[.pointer p, .int .i64 pid] w fun e w'=>e= .returned (.tuple #[.slice none 0 0, .int .i64 1])∧w=w':=by
 go_enter Tryz.func59,Tryz.ntmps59
 go_wp2_with fail
 refine(JH p pid w h).mono ?_
 rintro e w' ⟨rfl,rfl⟩
 go_wp2
 go_ret2
 exact⟨rfl,rfl⟩
set_option maxHeartbeats 4000000 in
theorem VB{w:World}{b m:Nat}{n:Int}{P:Pt}{L:List Nd}(h:TabAt w b m n P L)(pid:Int)(hi:I64 pid):
  Calls Tryz.prog 59 #[.pointer (some ⟨b,0,none⟩), .int .i64 pid] w (JO w b m n P (fV L pid) (fZ n L pid) (iZ n L pid)):=by
 have A:=Lib.hid (fun er w'=>JO.none_ (w':=w') h er)
 cases hp:P pid with
 |none=>
  have e4:fV L pid=4:=by unfold fV;rw[h.none_ hp]
  have eL:fZ n L pid=L:=by unfold fZ;rw[e4];rfl
  have eR:iZ n L pid=[]:=by unfold iZ;rw[e4];rfl
  rw[e4,eL,eR]
  have H:=Lib.hid h
  have HP:=Lib.hid hp
  clear h hp e4 eL eR
  go_enter Tryz.func59,Tryz.ntmps59
  go_wp2_with fail
  refine(qE H.out hi HP.out).mono ?_
  rintro e w' ⟨rfl,rfl⟩
  go_wp2
  go_ret2
  exact A.out _ _ (Below.refl _ _)
 | some p=>
  obtain⟨x,hx,hpx⟩:=h.proc hp
  have H:=Lib.hid h
  have HP:=Lib.hid hp
  cases hch:mP pid L with
  |false=>
   have e4:fV L pid=4:=by unfold fV;rw[hx];simp only;rw[hch];rfl
   have eL:fZ n L pid=L:=by unfold fZ;rw[e4];rfl
   have eR:iZ n L pid=[]:=by unfold iZ;rw[e4];rfl
   rw[e4,eL,eR]
   have CH:=Lib.hid (qF h hp)
   rw[hch]at CH
   clear h hp hx hpx e4 eL eR hch
   go_enter Tryz.func59,Tryz.ntmps59
   go_wp2_with fail
   refine(fM H.out hi HP.out).mono ?_
   rintro e w' ⟨rfl,rfl⟩
   go_wp2_with fail
   refine CH.out.mono ?_
   rintro e w1 ⟨rfl,hb⟩
   have HB:=Lib.hid hb
   clear hb
   go_wp2
   go_ret2
   exact A.out _ _ HB.out
  | true=>
   by_cases h1:x.2.2.1=1
   ·have e0:fV L pid=0:=by unfold fV;rw[hx];simp only;rw[hch,if_pos rfl,if_pos h1]
    have eL:fZ n L pid=qD n (L.map (setSt pid 2)):=by unfold fZ;rw[if_pos e0]
    have eR:iZ n L pid=vD n (L.map (setSt pid 2)):=by unfold iZ;rw[if_pos e0]
    rw[e0,eL,eR]
    have CH:=Lib.hid (qF h hp)
    rw[hch]at CH
    have HX:=Lib.hid hx
    have PX:=Lib.hid hpx
    have h1':=Lib.hid h1
    clear h hp hx hpx e0 eL eR hch h1
    go_enter Tryz.func59,Tryz.ntmps59
    go_wp2_with fail
    refine(fM H.out hi HP.out).mono ?_
    rintro e w' ⟨rfl,rfl⟩
    go_wp2_with fail
    refine CH.out.mono ?_
    rintro e w1 ⟨rfl,hb⟩
    have HB:=Lib.hid hb
    have hp1:=below_block hb PX.out
    obtain⟨a0,a1,a2,a3,af⟩:=bG hp1
    rw[h1'.out]at a2
    have f2:=af 2
    obtain⟨w2,hw2⟩:∃w2,w2=w1.setCell ⟨p,2,none⟩ (.int .i64 2):=⟨_,rfl⟩
    have g2:w1.grownBy w2 (some p):=by rw[hw2];exact grownBy_setCell _ _ _ _
    have T2:TabAt w2 b m n P (L.map (setSt pid 2)):=(H.out.later hb).turn HP.out (x':=(x.1,x.2.1,2,x.2.2.2)) (by rw[hw2];exact heap_setCell_same _ _ 2 _ _ _ hp1) (fun k hk hn=>g2.block k hk (fun e=>hn (Option.some.inj e))) (nJ HX.out) (fun i hi=>rE hi) (H.out.good.setSt pid 2 (by decide)) (by simp)
    have T2:=Lib.hid T2
    have O2:Hid (Only w w2 (tB m P)):=Lib.hid ((Only.below hb).trans (Only.grown g2 (Or.inr ⟨pid,HP.out⟩)))
    clear hb hp1 g2 af
    go_wp2_with fail
    rw[←hw2]
    clear hw2 a0 a1 a2 a3 f2
    refine(ET T2.out).mono ?_
    rintro e w3 ⟨⟨v,rfl,ho⟩,⟨⟨P',ht,hs⟩,ho2⟩⟩
    have R3:=Lib.hid (pF ho O2.out.size)
    have T3:=Lib.hid ht
    have S3:=Lib.hid hs
    have O3:=Lib.hid (O2.out.trans ho2)
    clear ho ht hs ho2
    go_wp2
    go_ret2
    exact⟨⟨v,rfl,R3.out⟩,⟨P',T3.out,fun i q e=>(S3.out i q e).imp id (fun h=>Nat.le_trans O2.out.size h)⟩,O3.out⟩
   ·have e9:fV L pid=9:=by unfold fV;rw[hx];simp only;rw[hch,if_pos rfl,if_neg h1]
    have eL:fZ n L pid=L:=by unfold fZ;rw[e9];rfl
    have eR:iZ n L pid=[]:=by unfold iZ;rw[e9];rfl
    rw[e9,eL,eR]
    have CH:=Lib.hid (qF h hp)
    rw[hch]at CH
    have hb1:(x.2.2.1==1)=false:=by simpa using h1
    have PX:=Lib.hid hpx
    obtain⟨x1,x2,x3,x4⟩:=x
    simp only at hb1
    clear h hp hx hpx e9 eL eR hch h1
    go_enter Tryz.func59,Tryz.ntmps59
    go_wp2_with fail
    refine(fM H.out hi HP.out).mono ?_
    rintro e w' ⟨rfl,rfl⟩
    go_wp2_with fail
    refine CH.out.mono ?_
    rintro e w1 ⟨rfl,hb⟩
    have HB:=Lib.hid hb
    obtain⟨a0,a1,a2,a3, -⟩:=bG (below_block hb PX.out)
    simp only at a2
    clear hb
    go_wp2
    go_ret2
    exact A.out _ _ HB.out
end Go.Proofs.YtammlljefhakmaaGreatDoor
namespace Go.Proofs.YtammlljefhakmaaGreatDoor
open Go.RowKit
set_option maxRecDepth 100000
structure Wh(k:Int)(L:List Nd):Prop where
 first:∃x,aD 1 L=some x∧x.2.1=0∧x.2.2.1≠3
 wait:∀x∈L,x.2.2.1=2→mP x.1 L=true∧(x.1≤k→rR x.1 L=none)
 zom:∀x∈L,x.2.2.1=3→∀y∈L,y.2.1≠x.1
 code:∀x∈L,x.2.2.1≠3→x.2.2.2=0
 tree:∃f:Int→Nat,f 1=0∧∀x∈L,x.1≠1→∃y∈L,y.1=x.2.1∧f y.1<f x.1
theorem gq{j:Int}{L:List Nd}:mP j L=true↔∃y∈L,y.2.1=j:=by unfold mP;rw[List.any_eq_true];simp
theorem ni{j:Int}{L:List Nd}:rR j L=none↔∀y∈L,¬(y.2.1=j∧y.2.2.1=3):=by unfold rR;rw[List.find?_eq_none];simp
theorem l7{L:List Nd}(hp:L.Pairwise (fun a b=>a.1<b.1)){x y:Nd}(hx:x∈L)(hy:y∈L)(h:x.1=y.1):x=y:=by
 have h1:=dI hp hx
 have h2:=dI hp hy
 rw[h,h2]at h1
 exact(Option.some.inj h1).symm
theorem Wh.step{k:Int}{L:List Nd}(h:Wh k L)(hp:L.Pairwise (fun a b=>a.1<b.1)):Wh (k+1) (kG (k+1) L):=by
 unfold kG
 cases hs:kT (k+1) L with
 | none=>
  refine⟨h.first,fun x hx h2=>⟨(h.wait x hx h2).1,fun hk=>?_⟩,h.zom,h.code,h.tree⟩
  by_cases c:x.1=k+1
  ·unfold kT at hs
   rw[←c,dI hp hx]at hs
   simp only at hs
   rw[if_pos h2]at hs
   exact hs
  ·exact(h.wait x hx h2).2 (by omega)
 | some c=>
  obtain⟨⟨p,YP,hp2⟩,hcm,hcp,hc3⟩:=lg hs
  have hpm:=(aj YP).1
  have hp1:=(aj YP).2
  have hcj:c.1≠k+1:=fun e=>by
   have:=l7 hp hcm hpm (by omega)
   rw[this,hp2]at hc3
   cases hc3
  have hc1:c.1≠1:=fun e=>by
   obtain⟨x,hx, -,hx3⟩:=h.first
   have:=l7 hp hcm (aj hx).1 (by rw[e];exact(aj hx).2.symm)
   rw[this]at hc3
   exact hx3 hc3
  have mem:∀z,z∈fT c.1 (L.map (setSt (k+1) 1))→∃x∈L,z=setSt (k+1) 1 x∧x.1≠c.1:=fun z hz=>by
   obtain⟨h1,h2⟩:=iF.1 hz
   obtain⟨x,hx,rfl⟩:=List.mem_map.1 h1
   rw[bV]at h2
   exact⟨x,hx,rfl,h2⟩
  have inn:∀x,x∈L→x.1≠c.1→setSt (k+1) 1 x∈fT c.1 (L.map (setSt (k+1) 1)):=fun x hx hn=>iF.2 ⟨List.mem_map.2 ⟨x,hx,rfl⟩,by rw[bV];exact hn⟩
  have up:∀x:Nd,(setSt (k+1) 1 x).2.1=x.2.1:=fun x=>by unfold setSt;split<;>rfl
  have cd:∀x:Nd,(setSt (k+1) 1 x).2.2.2=x.2.2.2:=fun x=>by unfold setSt;split<;>rfl
  have st:∀x:Nd,x.1≠k+1→(setSt (k+1) 1 x)=x:=fun x hn=>by unfold setSt;rw[if_neg hn]
  have st1:∀x:Nd,x.1=k+1→(setSt (k+1) 1 x).2.2.1=1:=fun x hn=>by unfold setSt;rw[if_pos hn]
  refine⟨?_,?_,?_,?_,?_⟩
  ·obtain⟨x,hx,h0,h3⟩:=h.first
   refine⟨setSt (k+1) 1 x,by rw[iG,if_neg (fun e=>hc1 e.symm),bC (bV _ _),hx];rfl,by rw[up];exact h0,?_⟩
   by_cases e:x.1=k+1
   ·rw[st1 x e];decide
   ·rw[st x e];exact h3
  ·intro z hz h2
   obtain⟨x,hx,rfl,hn⟩:=mem z hz
   by_cases e:x.1=k+1
   ·rw[st1 x e]at h2;cases h2
   ·rw[st x e]at h2
    obtain⟨w1,w2⟩:=h.wait x hx h2
    rw[bV]
    refine⟨?_,fun hk=>?_⟩
    ·obtain⟨y,hy,hyx⟩:=gq.1 w1
     refine gq.2 ⟨_,inn y hy (fun e2=>?_),by rw[up];exact hyx⟩
     have:=l7 hp hy hcm e2
     rw[this,hcp]at hyx
     omega
    ·rw[ni]
     rintro y hy ⟨y1,y3⟩
     obtain⟨y',hy',rfl, -⟩:=mem y hy
     rw[up]at y1
     by_cases e2:y'.1=k+1
     ·rw[st1 y' e2]at y3;cases y3
     ·rw[st y' e2]at y3
      exact ni.1 (w2 (by omega)) y' hy' ⟨y1,y3⟩
  ·intro z hz h3 y hy
   obtain⟨x,hx,rfl,hn⟩:=mem z hz
   obtain⟨y',hy',rfl, -⟩:=mem y hy
   rw[up,bV]
   by_cases e:x.1=k+1
   ·rw[st1 x e]at h3;cases h3
   ·rw[st x e]at h3
    exact h.zom x hx h3 y' hy'
  ·intro z hz h3
   obtain⟨x,hx,rfl,hn⟩:=mem z hz
   rw[cd]
   by_cases e:x.1=k+1
   ·have:x=p:=l7 hp hx hpm (by omega)
    exact h.code x hx (by rw[this,hp2];decide)
   ·rw[st x e]at h3
    exact h.code x hx h3
  ·obtain⟨f,f0,hf⟩:=h.tree
   refine⟨f,f0,fun z hz hz1=>?_⟩
   obtain⟨x,hx,rfl,hn⟩:=mem z hz
   rw[bV]at hz1 ⊢
   obtain⟨y,hy,hy1,hy2⟩:=hf x hx hz1
   refine⟨_,inn y hy (fun e=>?_),by rw[bV,up];exact hy1,by rw[bV];exact hy2⟩
   have:=l7 hp hy hcm e
   subst this
   exact h.zom y hy hc3 x hx hy1.symm
theorem Wh.YQ{n:Int}{L:List Nd}(hg:aL n L)(h:Wh 0 L):∀k:Nat,Wh (k:Int) (kH k L)
 |0=>h
 |k+1=>by
  have:=(Wh.YQ hg h k).step (hg.YQ k).up
  push_cast
  exact this
theorem Wh.serve{n:Int}{L:List Nd}(hg:aL n L)(h:Wh 0 L):Wh 8 (qD n L):=by
 have h1:=Wh.YQ hg h n.toNat
 have h2:=(hg.YQ n.toNat).ok
 have hm:=hg.most
 have e:((n.toNat:Nat):Int)=n:=by omega
 rw[e]at h1
 exact⟨h1.first,fun x hx hw=>⟨(h1.wait x hx hw).1,fun _=>(h1.wait x hx hw).2 (h2 x hx).1.2⟩,h1.zom,h1.code,h1.tree⟩
theorem Wh.add{n:Int}{L:List Nd}(hg:aL n L)(h:Wh 8 L)(parent:Int):Wh 8 (jd n L parent):=by
 unfold jd
 by_cases e:l6 n L parent=0
 ·rw [if_pos e]
  unfold l6 at e
  cases hp:aD parent L with
  |none=>simp[hp]at e
  | some p=>
   simp only[hp]at e
   split at e
   ·cases e
   ·rename_i h3
    split at e
    ·cases e
    ·rename_i hl
     obtain⟨hf,hno⟩:=hg.free hl
     have hpm:=(aj hp).1
     have hp1:=(aj hp).2
     obtain⟨x1,hx1,aci,Zw⟩:=h.first
     have h11:aG 1 L≠1:=fun e=>hno x1 (aj hx1).1 (by rw[e];exact(aj hx1).2)
     refine⟨⟨x1,by rw[ji hno,if_neg (fun e=>h11 e.symm)];exact hx1,aci,Zw⟩,fun x hx h2=>?_,fun x hx hx3 y hy=>?_,fun x hx hx3=>?_,?_⟩
     ·rcases eG.1 hx with rfl|hx
      ·cases h2
      ·obtain⟨w1,w2⟩:=h.wait x hx h2
       refine⟨?_,fun hk=>?_⟩
       ·obtain⟨y,hy,hyx⟩:=gq.1 w1
        exact gq.2 ⟨y,eG.2 (Or.inr hy),hyx⟩
       ·rw[ni]
        rintro y hy ⟨y1,y3⟩
        rcases eG.1 hy with rfl|hy
        ·cases y3
        ·exact ni.1 (w2 hk) y hy ⟨y1,y3⟩
     ·rcases eG.1 hx with rfl|hx
      ·cases hx3
      ·rcases eG.1 hy with rfl|hy
       ·intro e2
        have:p=x:=l7 hg.up hpm hx (by rw[hp1];exact e2)
        rw[this]at h3
        exact h3 hx3
       ·exact h.zom x hx hx3 y hy
     ·rcases eG.1 hx with rfl|hx
      ·rfl
      ·exact h.code x hx hx3
     ·obtain⟨f,f0,hft⟩:=h.tree
      refine⟨fun i=>if i=aG 1 L then f parent+1 else f i,by simp only;rw[if_neg (fun e=>h11 e.symm)];exact f0,fun x hx hxn=>?_⟩
      rcases eG.1 hx with rfl|hx
      ·refine⟨p,eG.2 (Or.inr hpm),hp1,?_⟩
       simp only
       rw[if_pos trivial,if_neg (hno p hpm),hp1]
       omega
      ·obtain⟨y,hy,hy1,hy2⟩:=hft x hx hxn
       refine⟨y,eG.2 (Or.inr hy),hy1,?_⟩
       simp only
       rw[if_neg (hno y hy),if_neg (hno x hx)]
       exact hy2
 ·rw[if_neg e];exact h
theorem Wh.Ph{n:Int}{L:List Nd}(hg:aL n L)(h:Wh 8 L)(pid:Int):Wh 8 (fZ n L pid):=by
 unfold fZ
 by_cases e:fV L pid=0
 ·rw [if_pos e]
  unfold fV at e
  cases hp:aD pid L with
  |none=>simp[hp]at e
  | some p=>
   simp only[hp]at e
   split at e
   ·rename_i hch
    split at e
    ·rename_i h1
     have hpm:=(aj hp).1
     have hp1:=(aj hp).2
     have up:∀x:Nd,(setSt pid 2 x).2.1=x.2.1:=fun x=>by unfold setSt;split<;>rfl
     have cd:∀x:Nd,(setSt pid 2 x).2.2.2=x.2.2.2:=fun x=>by unfold setSt;split<;>rfl
     have st:∀x:Nd,x.1≠pid→(setSt pid 2 x)=x:=fun x hn=>by unfold setSt;rw[if_neg hn]
     have st1:∀x:Nd,x.1=pid→(setSt pid 2 x).2.2.1=2:=fun x hn=>by unfold setSt;rw[if_pos hn]
     refine Wh.serve (hg.setSt pid 2 (by decide)) ⟨?_,?_,?_,?_,?_⟩
     ·obtain⟨x,hx,h0,h3⟩:=h.first
      refine⟨setSt pid 2 x,by rw[bC (bV _ _),hx];rfl,by rw[up];exact h0,?_⟩
      by_cases e:x.1=pid
      ·rw[st1 x e];decide
      ·rw[st x e];exact h3
     ·intro z hz h2
      obtain⟨x,hx,rfl⟩:=List.mem_map.1 hz
      have ah4:mP x.1 L=true:=by
       by_cases e:x.1=pid
       ·rw[e];exact hch
       ·rw[st x e]at h2;exact(h.wait x hx h2).1
      rw[bV]
      refine⟨?_,fun hk=>?_⟩
      ·obtain⟨y,hy,hyx⟩:=gq.1 ah4
       exact gq.2 ⟨_,List.mem_map.2 ⟨y,hy,rfl⟩,by rw[up];exact hyx⟩
      ·have:=(hg.ok x hx).1.1
       omega
     ·intro z hz h3 y hy
      obtain⟨x,hx,rfl⟩:=List.mem_map.1 hz
      obtain⟨y',hy',rfl⟩:=List.mem_map.1 hy
      rw[up,bV]
      by_cases e:x.1=pid
      ·rw[st1 x e]at h3;cases h3
      ·rw[st x e]at h3;exact h.zom x hx h3 y' hy'
     ·intro z hz h3
      obtain⟨x,hx,rfl⟩:=List.mem_map.1 hz
      rw[cd]
      by_cases e:x.1=pid
      ·have:x=p:=l7 hg.up hx hpm (by omega)
       exact h.code x hx (by rw[this,h1];decide)
      ·rw[st x e]at h3;exact h.code x hx h3
     ·obtain⟨f,f0,hf⟩:=h.tree
      refine⟨f,f0,fun z hz hz1=>?_⟩
      obtain⟨x,hx,rfl⟩:=List.mem_map.1 hz
      rw[bV]at hz1 ⊢
      obtain⟨y,hy,hy1,hy2⟩:=hf x hx hz1
      exact⟨_,List.mem_map.2 ⟨y,hy,rfl⟩,by rw[bV,up];exact hy1,by rw[bV];exact hy2⟩
    ·cases e
   ·cases e
 ·rw[if_neg e];exact h
theorem Wh.aeR{n:Int}{L:List Nd}(hg:aL n L)(h:Wh 8 L)(pid:Int){c:Int}(hc:0≤c∧c≤4294967295):Wh 8 (iA n L pid c):=by
 unfold iA
 by_cases e:eY L pid=0
 ·rw [if_pos e]
  unfold eY at e
  cases hp:aD pid L with
  |none=>simp[hp]at e
  | some p=>
   simp only[hp]at e
   split at e
   ·cases e
   ·rename_i h1
    have hpm:=(aj hp).1
    have hp1:=(aj hp).2
    obtain⟨g,hgd⟩:∃g:Nd→Nd,g=fun x=>fP pid 1 (oC pid c x):=⟨_,rfl⟩
    have eM:mQ L pid c=L.map g:=by unfold mQ;rw[List.map_map,hgd];rfl
    have gid:∀x,(g x).1=x.1:=fun x=>by rw[hgd];simp only;rw[kC,wE]
    have gup:∀x:Nd,(x.2.1=pid∧(g x).2.1=1)∨(x.2.1≠pid∧(g x).2.1=x.2.1):=fun x=>by
     rw[hgd]
     have hz:(oC pid c x).2.1=x.2.1:=by unfold oC;split<;>rfl
     simp only
     unfold fP
     rw[hz]
     by_cases e:x.2.1=pid
     ·rw[if_pos e];exact Or.inl ⟨e,rfl⟩
     ·rw[if_neg e];exact Or.inr ⟨e,hz⟩
    have gst:∀x:Nd,(g x).2.2=(oC pid c x).2.2:=fun x=>by rw[hgd];simp only;unfold fP;split<;>rfl
    have gs1:∀x:Nd,x.1=pid→(g x).2.2.1=3:=fun x hn=>by rw[gst];unfold oC;rw[if_pos hn]
    have gs2:∀x:Nd,x.1≠pid→(g x).2.2=x.2.2:=fun x hn=>by rw[gst];unfold oC;rw[if_neg hn]
    obtain⟨x1,hx1,aci,Zw⟩:=h.first
    have h1m:=(aj hx1).1
    have h11:=(aj hx1).2
    have ajr:=(hg.at_ hp).1
    have hgM:=hg.mQ pid hc
    rw[eM]at hgM ⊢
    refine Wh.serve hgM ⟨?_,?_,?_,?_,?_⟩
    ·refine⟨g x1,by rw[bC gid,hx1];rfl,?_,by rw[gs2 x1 (by omega)];exact Zw⟩
     rcases gup x1 with⟨e, -⟩|⟨-,e⟩
     ·omega
     ·rw[e];exact aci
    ·intro z hz h2
     obtain⟨x,hx,rfl⟩:=List.mem_map.1 hz
     by_cases e:x.1=pid
     ·rw[gs1 x e]at h2;cases h2
     ·rw[gs2 x e]at h2
      rw[gid]
      refine⟨?_,fun hk=>?_⟩
      ·obtain⟨y,hy,hyx⟩:=gq.1 (h.wait x hx h2).1
       refine gq.2 ⟨_,List.mem_map.2 ⟨y,hy,rfl⟩,?_⟩
       rcases gup y with⟨e2, -⟩|⟨-,e2⟩
       ·omega
       ·rw[e2];exact hyx
      ·have:=(hg.ok x hx).1.1
       omega
    ·intro z hz h3 y hy
     obtain⟨x,hx,rfl⟩:=List.mem_map.1 hz
     obtain⟨y',hy',rfl⟩:=List.mem_map.1 hy
     rw[gid]
     have ah5:x.1≠1:=fun e=>by
      have:x=x1:=l7 hg.up hx h1m (by omega)
      rw[this,gs2 x1 (by omega)]at h3
      exact Zw h3
     rcases gup y' with⟨e2,e3⟩|⟨e2,e3⟩
     ·rw[e3];exact fun e=>ah5 e.symm
     ·rw[e3]
      by_cases e:x.1=pid
      ·rw[e];exact e2
      ·rw[gs2 x e]at h3
       exact h.zom x hx h3 y' hy'
    ·intro z hz h3
     obtain⟨x,hx,rfl⟩:=List.mem_map.1 hz
     by_cases e:x.1=pid
     ·exact absurd (gs1 x e) h3
     ·rw[gs2 x e]at h3 ⊢
      exact h.code x hx h3
    ·obtain⟨f,f0,hf⟩:=h.tree
     refine⟨f,f0,fun z hz hz1=>?_⟩
     obtain⟨x,hx,rfl⟩:=List.mem_map.1 hz
     rw[gid]at hz1 ⊢
     obtain⟨y,hy,hy1,hy2⟩:=hf x hx hz1
     rcases gup x with⟨e2,e3⟩|⟨e2,e3⟩
     ·exact⟨_,List.mem_map.2 ⟨x1,h1m,rfl⟩,by rw[gid,e3];exact h11,by rw[gid,h11,f0];omega⟩
     ·exact⟨_,List.mem_map.2 ⟨y,hy,rfl⟩,by rw[gid,e3];exact hy1,by rw[gid];exact hy2⟩
 ·rw[if_neg e];exact h
end Go.Proofs.YtammlljefhakmaaGreatDoor
