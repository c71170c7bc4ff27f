/- Helps of the proof. No condition. -/
import Derived.Test.YtammlljefhakmaaGreatDoorGK
import Derived.Deep.RegionHeld3
import Derived.Deep.AppendLies
import Derived.Deep.RegionLaw
import Derived.Great.BuildSlice
namespace Go.Proofs.YtammlljefhakmaaGreatDoor
open Go.RowKit
set_option maxRecDepth 100000
section
abbrev R0:Nat→Nat:=fun _=>0
theorem lC.snoc{n:Nat}{P:List (Nat×Nat)}(h:lC n P R0)(f m:Nat)(h8:P.length<8)(h1:1≤m)(h2:f+m≤n)(hm:∀j,j<P.length→oI (P.getD j (0,0)) (f,m)=false):lC n (P++[(f,m)]) R0:=by
 have old:∀i,i<P.length→(P++[(f,m)]).getD i (0,0)=P.getD i (0,0):=fun i hi=>by simp[List.getD_eq_getElem?_getD,List.getElem?_append_left hi]
 have new:(P++[(f,m)]).getD P.length (0,0)=(f,m):=by simp[List.getD_eq_getElem?_getD]
 have far:∀i x,i<P.length→vY (P.getD i (0,0)) x=true→vY (f,m) x=true→False:=fun i x hi a b=>by
  have h3:=hm i hi
  have h4:=(mZ _ _).1 a
  have h5:=(mZ _ _).1 b
  simp only at h5
  have:oI (P.getD i (0,0)) (f,m)=true:=(Sd _ _).2 (by simp only;omega)
  rw[h3]at this;cases this
 refine⟨h.top,by simp;omega,fun i hi=>?_,fun i j x hi hj a b=>?_,fun _ _=>rfl,fun _=>by simp⟩
 ·rw[List.length_append,List.length_singleton]at hi
  by_cases e:i<P.length
  ·rw[old i e];exact h.rng i e
  ·obtain rfl:i=P.length:=by omega
   rw[new];exact⟨h1,h2⟩
 ·rw[List.length_append,List.length_singleton]at hi hj
  by_cases e:i<P.length
  ·rw[old i e]at a
   by_cases e':j<P.length
   ·rw[old j e']at b
    exact h.apart i j x e e' a b
   ·obtain rfl:j=P.length:=by omega
    rw[new]at b
    exact(far i x e a b).elim
  ·obtain rfl:i=P.length:=by omega
   rw[new]at a
   by_cases e':j<P.length
   ·rw[old j e']at b
    exact(far j x e' b a).elim
   ·omega
theorem Wz(T:List (Nat×(Nat×Nat)))(t:Nat×(Nat×Nat)):(T++[t]).map (·.2)=T.map (·.2)++[t.2]:=by simp
theorem Py(T:List (Nat×(Nat×Nat)))(t:Nat×(Nat×Nat))(i:Nat)(h:i<T.length):(T++[t]).getD i default=T.getD i default:=by simp[List.getD_eq_getElem?_getD,List.getElem?_append_left h]
theorem WB(T:List (Nat×(Nat×Nat)))(t:Nat×(Nat×Nat)):(T++[t]).getD T.length default=t:=by simp[List.getD_eq_getElem?_getD]
def bD.more(X:bD)(v:Value)(s f m:Nat):bD:={ X with v:=v,T:=X.T++[(s,(f,m))] }
theorem Z6(w:World)(b mp mb:Nat)(u v:Value)(h:w.heap[b]? =some (.cells #[.pointer (some ⟨mp,0,none⟩),u, .map (some mb)] 115 (0,0))):(w.setCell ⟨b,1,none⟩ v).heap[b]? =some (.cells #[.pointer (some ⟨mp,0,none⟩),v, .map (some mb)] 115 (0,0)):=heap_setCell_same w b 1 _ _ v h
theorem aK.snoc{w w1 w2:World}{X:bD}{L:List Int}{s f m:Nat}{v:Value}(h:aK w X L R0)(hb:Below w.heap.size w w1)(hs:dW w1 s (span f m))(hlt:w.heap.size≤s)
  (hg:w1.grownBy w2 X.v.ownBlock)(ho:w2.ownsRow X.base 148 3 v (X.T.length+1) (jJ X.T++[.pointer (some ⟨s,0,none⟩), .int .i64 (f:Int), .int .i64 (m:Int)]))(hf:lC X.n (X.P++[(f,m)]) R0):
  aK (w2.setCell ⟨X.pb,1,none⟩ v) (X.more v s f m) L R0:=by
 have h1:=h.below hb
 have ob:∀g,X.v.ownBlock=some g→∃cs,w1.heap[g]? =some (.cells cs 148 (0,0)):=fun g e=>bF h1.parts e
 have keep:∀(k:Nat) (o:Obj),w1.heap[k]? =some o→kindOf o≠some 148→w2.heap[k]? =some o:=fun k o hk hne=>
  (hg.block k (lt_of_block hk) (fun e=>by
   obtain⟨cs,hcs⟩:=ob k e.symm
   rw[hcs]at hk
   exact hne (by rw[←Option.some.inj hk];rfl))).trans hk
 have hx:=keep _ _ h1.box (by simp[kindOf])
 have hg2:=grownBy_setCell w2 X.pb 1 v
 have Kv:∀(k:Nat) (o:Obj),w1.heap[k]? =some o→kindOf o≠some 148→kindOf o≠some 115→(w2.setCell ⟨X.pb,1,none⟩ v).heap[k]? =some o:=fun k o hk hne hne2=>
  gU (keep k o hk hne) hg2 hx (by simpa[kindOf]using hne2)
 obtain⟨es,ck,hm⟩:=h1.refs.isMap
 refine⟨⟨Kv _ _ h1.mem.box (by simp[kindOf]) (by simp[kindOf]),Kv _ _ h1.mem.row (by simp[kindOf]) (by simp[kindOf]),h1.mem.len,h1.mem.ne,h1.mem.pos,h1.mem.top⟩,
  Z6 _ _ _ _ _ _ hx,?_,fun i hi=>?_,h1.refs.same ((Kv _ _ hm (by simp[kindOf]) (by simp[kindOf])).trans hm.symm),?_,fun i j hi hj e=>?_⟩
 ·have:=lW ho hg2 hx (by simp[kindOf])
  simpa[bD.more,Kq]using this
 ·simp only[bD.more,List.length_append,List.length_singleton]at hi ⊢
  by_cases e:i<X.T.length
  ·rw[Py _ _ _ e]
   exact⟨(h1.sets i e).good,Kv _ _ (h1.sets i e).box (by simp[kindOf]) (by simp[kindOf])⟩
  ·obtain rfl:i=X.T.length:=by omega
   rw[WB,Fu _ _ (fun _ _ _=>rfl)]
   exact⟨hs.good,Kv _ _ hs.box (by simp[kindOf]) (by simp[kindOf])⟩
 ·rw[bD.P,bD.more,Wz];exact hf
 ·simp only[bD.more,List.length_append,List.length_singleton]at hi hj e
  have lts:∀k,k<X.T.length→(X.T.getD k default).1<w.heap.size:=fun k hk=>(h.sets k hk).lt
  by_cases ei:i<X.T.length
  ·rw[Py _ _ _ ei]at e
   by_cases ej:j<X.T.length
   ·rw[Py _ _ _ ej]at e
    exact h.nodup i j ei ej e
   ·obtain rfl:j=X.T.length:=by omega
    rw[WB]at e
    have:=lts i ei
    simp only at e
    omega
  ·obtain rfl:i=X.T.length:=by omega
   rw[WB]at e
   by_cases ej:j<X.T.length
   ·rw[Py _ _ _ ej]at e
    have:=lts j ej
    simp only at e
    omega
   ·omega
def Aq(n:Nat)(P:List (Nat×Nat))(f m:Int):Prop:=kU f m n=true∧∀j,j<P.length→oI (P.getD j (0,0)) (f.toNat,m.toNat)=false
def Ir(X:bD)(L:List Int)(f m:Int)(w:World)(e:Ending)(w':World):Prop:=
 (¬Aq X.n X.P f m∧e= .returned (.int .i64 2)∧Below w.heap.size w w')∨
 (Aq X.n X.P f m∧e= .returned (.int .i64 0)∧∃v s,aK w' (X.more v s f.toNat m.toNat) L R0∧w.heap.size≤s∧(∀g,v.ownBlock=some g→X.v.ownBlock=some g∨w.heap.size≤g)∧Only w w' (fun k=>k=X.pb∨X.v.ownBlock=some k))
structure rF(w w':World)(X:bD)(L:List Int)(f m:Int):Prop where
 pool:aK w' X L R0
 box:w'.heap[w.heap.size]? =some (.cells #[.int .i64 f, .int .i64 m] 64 (0,0))
 below:Below w.heap.size w w'
theorem rF.step{w w1 w':World}{X:bD}{L:List Int}{f m:Int}(h:rF w w1 X L f m)(hb:Below w1.heap.size w1 w'):rF w w' X L f m:=⟨h.pool.below hb,below_block hb h.box,h.below.trans (hb.mono h.below.size)⟩
theorem rF.r0{w w1:World}{X:bD}{L:List Int}{f m:Int}(h:rF w w1 X L f m):w1.cell? ⟨w.heap.size,0,none⟩=some (.int .i64 f):=by rw[cell_of_row _ _ _ _ _ _ h.box];rfl
theorem rF.r1{w w1:World}{X:bD}{L:List Int}{f m:Int}(h:rF w w1 X L f m):w1.cell? ⟨w.heap.size,1,none⟩=some (.int .i64 m):=by rw[cell_of_row _ _ _ _ _ _ h.box];rfl
theorem rF.start{w:World}{X:bD}{L:List Int}(h:aK w X L R0)(f m:Int):rF w (w.alloc (.cells #[.int .i64 f, .int .i64 m] 64)) X L f m:=
 have hB:=(Below.refl w.heap.size w).alloc (Nat.le_refl _) (.cells #[.int .i64 f, .int .i64 m] 64)
 ⟨h.below hB,heap_alloc_new w _,hB⟩
theorem Z8(X:bD)(L:List Int)(f m:Int)(w:World)(h:aK w X L R0)(hin:kU f m X.n=false):Calls Tryz.prog 66 #[.pointer (some ⟨X.pb,0,none⟩), .agg #[.int .i64 f, .int .i64 m]] w (Ir X L f m w):=by
 have A:=Lib.hid ((rF.start h f m).step (Below.refl _ _).drew)
 have E:Hid (¬Aq X.n X.P f m):=Lib.hid (fun e=>by rw[e.1]at hin;cases hin)
 have II:=Lib.hid hin
 have NT:=Lib.hid h.mem.top
 clear h hin
 have q0:=A.out.r0
 have q1:=A.out.r1
 have q2:=A.out.pool.c0
 go_enter Tryz.func66,Tryz.ntmps66
 go_wp2_with fail
 go_region_held3 (fun w'=>w'.cell? ⟨w.heap.size,0,none⟩=some (.int .i64 f)∧w'.cell? ⟨w.heap.size,1,none⟩=some (.int .i64 m)∧w'.cell? ⟨X.pb,0,none⟩=some (.pointer (some ⟨X.mp,0,none⟩))) (go_keep)
  (first
   |(go_at_call 65;refine(aO _ _ _ _ _ A.out.pool.mem.iE).mono ?_;rintro e w1 ⟨rfl,rfl⟩)
   |(go_at_call 121;refine(Kr f m X.n _ NT.out).mono ?_;rw[II.out];rintro e w1 ⟨rfl,hb⟩;have A:=Lib.hid (A.out.step hb);have q0:=A.out.r0;have q1:=A.out.r1;have q2:=A.out.pool.c0;clear hb))
 go_wp2
 go_ret
 exact Or.inl ⟨E.out,rfl,A.out.below⟩
theorem WC{f m:Int}{n:Nat}(h:kU f m n=true):∃f' m':Nat,f=f'∧m=m'∧1≤m'∧f'+m'≤n:=by
 have:=(uy _ _ _).1 h
 obtain⟨f',rfl⟩:=Int.eq_ofNat_of_zero_le this.1
 obtain⟨m',rfl⟩:=Int.eq_ofNat_of_zero_le (show 0≤m by omega)
 exact⟨f',m',rfl,rfl,by omega,by omega⟩
theorem Only.Z9{w w':World}{B:Nat→Prop}{r:Option Nat}(h:w.grownBy w' r)(hr:∀k,r=some k→B k):Only w w' B:=
 ⟨h.os,h.tape,h.output,h.size,fun k hk hB=>h.block k hk (fun e=>hB (hr k e.symm))⟩
theorem aK.af3{w w':World}{X:bD}{L:List Int}{R:Nat→Nat}(h:aK w X L R)(hg:w.grownBy w' X.v.ownBlock):w'.heap[X.pb]? =some (.cells #[.pointer (some ⟨X.mp,0,none⟩),X.v, .map (some X.mb)] 115 (0,0)):=
 (hg.block _ (lt_of_block h.box) (fun e=>by
  obtain⟨cs,hcs⟩:=bF h.parts e.symm
  have:=h.box
  rw[hcs]at this
  exact absurd (congrArg kindOf (Option.some.inj this)) (by simp[kindOf]))).trans h.box
theorem NS:(Tryz.prog.info? 148).map (fun i=>(i.zero,i.size,i.bytes))=some (some (.agg #[.pointer none, .int .i64 0, .int .i64 0]),3,24):=by kernel_rfl
theorem Sl(w:World)(s f m:Nat):∀(j:Nat) (u:Value),([.pointer (some ⟨s,0,none⟩), .int .i64 (f:Int), .int .i64 (m:Int)]:List Value)[j]? =some u→(w.alloc (.cells #[.pointer (some ⟨s,0,none⟩), .int .i64 (f:Int), .int .i64 (m:Int)] 148)).cell? ((⟨w.heap.size,0,none⟩:Addr).add j)=some u:=fun j u hu=>by
 rw[Addr.add_mid,cell_of_row _ _ _ _ _ _ (heap_alloc_new w _)]
 rw[show 0+j=j by omega,←hu];simp
def acY(w:World)(X:bD)(L:List Int)(f m:Nat)(n:Nat)(i:Value)(wr:World):Prop:=∃k:Nat,i= .int .i64 (k:Int)∧k≤n∧rF w wr X L f m∧∀j,j<k→oI (X.P.getD j (0,0)) (f,m)=false
set_option maxHeartbeats 4000000 in
theorem acZ(X:bD)(L:List Int)(f m:Nat)(w:World)(h:aK w X L R0)(h8:X.T.length<8)(hbase:X.base≤w.heap.size)(hin:kU (f:Int) (m:Int) X.n=true):Calls Tryz.prog 66 #[.pointer (some ⟨X.pb,0,none⟩), .agg #[.int .i64 (f:Int), .int .i64 (m:Int)]] w (Ir X L f m w):=by
  have A:=Lib.hid ((rF.start h (f:Int) (m:Int)).step (Below.refl _ _).drew)
  have II:=Lib.hid hin
  have NT:=Lib.hid h.mem.top
  have BS:=Lib.hid hbase
  have PT:=Lib.hid h.parts
  have FT:=Lib.hid h.fit
  have PG:Hid (∀i,i<X.T.length→X.P.getD i (0,0)=(X.T.getD i default).2):=Lib.hid (fun i hi=>BP X.T i hi)
  have PL:=Lib.hid X.iJ
  have FM:Hid (1≤m∧f+m≤X.n∧f+m≤1024):=Lib.hid (by
    have:=(uy _ _ _).1 hin
    have:=h.mem.top
    omega)
  have HH:=Lib.hid h
  have H8:=Lib.hid h8
  obtain⟨aa,cc,hv⟩:=jE h.parts
  have HV:=Lib.hid hv
  clear h hin hbase
  have q0:=A.out.r0
  have q1:=A.out.r1
  have q2:=A.out.pool.c0
  have q3:=A.out.pool.c1
  rw[hv]at q3
  obtain⟨n,hn⟩:∃n,n=X.T.length:=⟨_,rfl⟩
  rw[←hn]at q3 h8
  have HN:=Lib.hid hn
  clear hn hv
  go_enter Tryz.func66,Tryz.ntmps66
  go_wp2_with fail
  go_region_held3 (fun w'=>w'.cell? ⟨w.heap.size,0,none⟩=some (.int .i64 (f:Int))∧w'.cell? ⟨w.heap.size,1,none⟩=some (.int .i64 (m:Int))∧w'.cell? ⟨X.pb,0,none⟩=some (.pointer (some ⟨X.mp,0,none⟩))) (go_keep)
    (first
      |(go_at_call 65;refine(aO _ _ _ _ _ A.out.pool.mem.iE).mono ?_;rintro e w1 ⟨rfl,rfl⟩)
      |(go_at_call 121;refine(Kr f m X.n _ NT.out).mono ?_;rw[II.out];rintro e w1 ⟨rfl,hb⟩;have A:=Lib.hid (A.out.step hb);have q0:=A.out.r0;have q1:=A.out.r1;have q2:=A.out.pool.c0;have q3:=A.out.pool.c1;rw[HV.out,←HN.out]at q3;clear hb))
  clear q0 q1 q2
  go_wp2_with fail
  clear q3
  go_loopw [22] (fun i wr=>acY w X L f m n i wr) (fun i _=>n-(intOf i).toNat)
  case atStart=>exact⟨0,rfl,Nat.zero_le _,A.out,fun j hj=>absurd hj (Nat.not_lt_zero _)⟩
  case round=>
    obtain⟨k,rfl,hk,hA,hno⟩:=hrel
    have A:=Lib.hid hA
    have NO:=Lib.hid hno
    clear hA hno
    by_cases hlt':k<n
    · obtain⟨g,c,s,f2,m2,hg,hgw,hrow,e0,e1,e2⟩:=pW A.out.pool.parts k (by have:=HN.out;omega)
      obtain⟨rfl,rfl⟩:aa=some ⟨g,0,none⟩∧cc=c:=by rw[HV.out]at hg;cases hg;exact⟨rfl,rfl⟩
      have hfm:f2+m2≤1024:=by
        have h1:=(FT.out.rng k (by rw[PL.out,←HN.out];exact hlt')).2
        rw[PG.out k (by rw[←HN.out];exact hlt'),hrow]at h1
        have:=FT.out.top
        simp only at h1
        omega
      have ROW:Hid (X.P.getD k (0,0)=(f2,m2)):=Lib.hid (by rw[PG.out k (by rw[←HN.out];exact hlt'),hrow])
      have q0:=A.out.r0
      have q1:=A.out.r1
      have hwr:w.heap.size<wr.heap.size:=lt_of_block A.out.box
      clear hrow hg
      obtain⟨z,hz⟩:∃z,oI (f2,m2) (f,m)=z:=⟨_,rfl⟩
      have Z:=Lib.hid hz
      clear hz
      have A1:=Lib.hid (A.out.step ((Below.refl _ _).alloc (Nat.le_refl _) (.cells #[.pointer (some ⟨s,0,none⟩), .int .i64 (f2:Int), .int .i64 (m2:Int)] 148)))
      cases z with
      | true=>
        go_wp2_with(go_at_call 122;refine(Kt (f2,m2) (f,m) _ hfm FM.out.2.2).mono ?_;rw[Z.out];rintro e w2 ⟨rfl,hb⟩;have A2:=Lib.hid (A1.out.step hb);clear hb)
        go_ret
        exact Or.inl ⟨fun e=>(by have:=e.2 k (by rw[PL.out,←HN.out];exact hlt');rw[ROW.out]at this;simp only[Int.toNat_natCast]at this;rw[Z.out]at this;cases this),rfl,A2.out.below⟩
      | false=>
        go_wp2_with(go_at_call 122;refine(Kt (f2,m2) (f,m) _ hfm FM.out.2.2).mono ?_;rw[Z.out];rintro e w2 ⟨rfl,hb⟩;have A2:=Lib.hid (A1.out.step hb);clear hb)
        go_roundw
        case rel=>
          refine⟨k+1,by go_num,by omega,A2.out,fun j hj=>?_⟩
          by_cases e:j=k
          · subst e;rw[ROW.out];exact Z.out
          · exact NO.out j (by omega)
        case measure=>simp[intOf];omega
    · obtain rfl:k=n:=by omega
      have FF:=Lib.hid (FT.out.snoc f m (by rw[PL.out,←HN.out];exact h8) FM.out.1 FM.out.2.1 (by rw[PL.out,←HN.out];exact NO.out))
      have q0:=A.out.r0
      have q1:=A.out.r1
      have ad1:f<1024:=by have:=FM.out;omega
      go_wp2_with fail
      refine(ZW f m wr ad1 FM.out.2.2).mono ?_
      rintro e w1 ⟨s,rfl,hs,hlt,hb⟩
      have A1:=Lib.hid ((A.out.step hb).step (Below.refl _ _).drew)
      have S1:=Lib.hid (hs.below (Below.refl _ _).drew)
      have G1:=Lib.hid hb
      have LT:=Lib.hid (Nat.le_trans A.out.below.size hlt)
      clear hs hb hlt q0 q1
      go_wp2_with fail
      have q0:w1.cell? ⟨w.heap.size,0,none⟩=some (.int .i64 (f:Int)):=A1.out.r0
      have q1:w1.cell? ⟨w.heap.size,1,none⟩=some (.int .i64 (m:Int)):=A1.out.r1
      have q2:w1.cell? ⟨X.pb,1,none⟩=some X.v:=A1.out.pool.c1
      have hwr:w.heap.size<w1.heap.size:=lt_of_block A1.out.box
      have hpb:X.pb<w1.heap.size:=lt_of_block A1.out.pool.box
      obtain⟨ie,hi,hbi⟩:=Option.map_eq_some_iff.1 NS
      simp only[Prod.mk.injEq]at hbi
      obtain⟨hi0,hi1,hi2⟩:=hbi
      have A2:=Lib.hid (A1.out.step ((Below.refl _ _).alloc (Nat.le_refl _) (.cells #[.pointer (some ⟨s,0,none⟩), .int .i64 (f:Int), .int .i64 (m:Int)] 148)))
      have S2:=Lib.hid (S1.out.below ((Below.refl _ _).alloc (Nat.le_refl _) (.cells #[.pointer (some ⟨s,0,none⟩), .int .i64 (f:Int), .int .i64 (m:Int)] 148)))
      have ZA:Hid (X.base≤(w1.drew.alloc (.cells #[.pointer (some ⟨s,0,none⟩), .int .i64 (f:Int), .int .i64 (m:Int)] 148)).heap.size):=Lib.hid (Nat.le_trans BS.out A2.out.below.size)
      have Bh:=Lib.hid (Sl w1.drew s f m)
      have T8:X.T.length+1≤8:=by have:=H8.out;omega
      go_region_law (first
        | (refine step_append_lies _ (by rfl) _ _ _ (by rfl) X.base 148 ie (.agg #[.pointer none, .int .i64 0, .int .i64 0]) 3 24 Tryz.underlying113 hi hi0 hi1 hi2 rfl (by omega) X.v X.T.length (jJ X.T) (by rfl) A2.out.pool.parts ⟨w1.drew.heap.size,0,none⟩ 1 1 [.pointer (some ⟨s,0,none⟩), .int .i64 (f:Int), .int .i64 (m:Int)] (by rfl) (by rfl) Bh.out (by simp[Value.oneCell']) (by omega) (by unfold maxLen;omega) (by omega) ZA.out (w1.drew.heap.size+1) (by simp) ?_
           intro gg cap w4 ho hg hat agU
           have OO:=Lib.hid ho
           have GG:=Lib.hid hg
           have HAT:=Lib.hid hat
           have hbx:=A2.out.pool.af3 hg
           have y1:w4.cell? ⟨X.pb,1,none⟩=some X.v:=by rw[cell_of_row _ _ _ _ _ _ hbx];rfl
           have f1:w4.frozen? ⟨X.pb,1,none⟩=false:=frozen_of_row w4 _ 1 _ _ hbx
           clear ho hg hat hbx))
      all_goals
        go_wp2
        go_ret
        exact Or.inr ⟨⟨II.out,by rw[PL.out,←HN.out];exact NO.out⟩,rfl,_,s,HH.out.snoc A2.out.below S2.out LT.out GG.out OO.out FF.out,LT.out,fun g hg=>by
          have:g=gg:=by simpa[Value.ownBlock]using hg.symm
          subst this
          rcases HAT.out with e|e
          · exact Or.inl e
          · right;have:=A1.out.below.size;omega,((Only.below A2.out.below).trans (Only.Z9 GG.out (fun k hk=>Or.inr hk))).trans (Only.grown (grownBy_setCell _ _ _ _) (Or.inl rfl))⟩
theorem aa0(X:bD)(L:List Int)(f m:Int)(w:World)(h:aK w X L R0)(h8:X.T.length<8)(hbase:X.base≤w.heap.size):Calls Tryz.prog 66 #[.pointer (some ⟨X.pb,0,none⟩), .agg #[.int .i64 f, .int .i64 m]] w (Ir X L f m w):=by
 cases hin:kU f m X.n with
 |false=>exact Z8 X L f m w h hin
 |true=>
  obtain⟨f,m,rfl,rfl,_,_⟩:=WC hin
  exact acZ X L f m w h h8 hbase hin
end
section
def wQ(w:World)(v:Value)(Q:List (Int×Int)):Prop:=∃a c,v= .slice a Q.length c∧(Q=[]∨∃b o,a=some ⟨b,o,none⟩∧b<w.heap.size∧∀i,i<Q.length→w.cell? ⟨b,o+i*2,none⟩=some (.int .i64 (Q.getD i default).1)∧w.cell? ⟨b,o+i*2+1,none⟩=some (.int .i64 (Q.getD i default).2))
theorem pair_cells{w:World}{v:Value}{Q:List (Int×Int)}(h:wQ w v Q)(i:Nat)(hi:i<Q.length):∃b o c x y,v= .slice (some ⟨b,o,none⟩) Q.length c∧b<w.heap.size∧Q.getD i default=(x,y)∧w.cell? ⟨b,o+i*2,none⟩=some (.int .i64 x)∧w.cell? ⟨b,o+i*2+1,none⟩=some (.int .i64 y):=by
 obtain⟨a,c,rfl,h|⟨b,o,rfl,hlt,hc⟩⟩:=h
 ·rw[h]at hi;simp at hi
 ·obtain⟨c0,c1⟩:=hc i hi
  obtain⟨x,hx⟩:∃x,Q.getD i default=x:=⟨_,rfl⟩
  rw[hx]at c0 c1
  exact⟨b,o,c,x.1,x.2,rfl,hlt,hx,c0,c1⟩
def xZ(Q:List (Int×Int)):List (Nat×Nat):=Q.map fun q=>(q.1.toNat,q.2.toNat)
theorem Kw(Q:List (Int×Int)):(xZ Q).length=Q.length:=by simp[xZ]
theorem Sm(Q:List (Int×Int))(k:Nat)(h:k<Q.length):xZ (Q.take (k+1))=xZ (Q.take k)++[((Q.getD k default).1.toNat,(Q.getD k default).2.toNat)]:=by
 unfold xZ
 rw[List.take_succ_eq_append_getElem h,List.map_append]
 congr 1
 simp[List.getD_eq_getElem?_getD,h]
def af4(n:Nat)(Q:List (Int×Int))(k:Nat):Prop:=∀i,i<k→Aq n (xZ (Q.take i)) (Q.getD i default).1 (Q.getD i default).2
def OkQ(n:Nat)(Q:List (Int×Int)):Prop:=(1≤Q.length∧Q.length≤8)∧af4 n Q Q.length
def Au(mp fb n:Nat)(L:List Int)(Q:List (Int×Int))(w:World)(e:Ending)(w':World):Prop:=
 (¬OkQ n Q∧e= .returned (.tuple #[.pointer none, .int .i64 2])∧Below w.heap.size w w')∨
 (OkQ n Q∧∃X:bD,e= .returned (.tuple #[.pointer (some ⟨X.pb,0,none⟩), .int .i64 0])∧aK w' X L R0∧X.mp=mp∧X.fb=fb∧X.n=n∧X.P=xZ Q∧(∀k,X.all k→k=mp∨k=fb∨w.heap.size≤k)∧Below w.heap.size w w')
theorem Iu(mp fb n:Nat)(L:List Int)(Q:List (Int×Int))(v:Value)(w:World)(h:bT w mp fb n L)(hv:wQ w v Q)(hq:Q.length=0∨8<Q.length):Calls Tryz.prog 25 #[.pointer (some ⟨mp,0,none⟩),v] w (Au mp fb n L Q w):=by
 obtain⟨a,c,rfl,_⟩:=hv
 have E:Hid (¬OkQ n Q):=Lib.hid (fun e=>by have:=e.1;omega)
 have H:=Lib.hid h
 have hn:((n:Int)==0)=false:=by have:=h.pos;simp;omega
 generalize Q.length=q at*
 clear h
 rcases hq with rfl|hq
 ·go_enter Tryz.func25,Tryz.ntmps25
  go_wp2_with(go_at_call 65;refine(aO _ _ _ _ _ H.out.iE).mono ?_;rintro e w' ⟨rfl,rfl⟩)
  go_ret2
  exact Or.inl ⟨E.out,rfl,Below.refl _ _⟩
 ·have h1:((q:Int)==0)=false:=by simp;omega
  have h2:decide (8<q)=true:=decide_eq_true hq
  go_enter Tryz.func25,Tryz.ntmps25
  go_wp2_with(go_at_call 65;refine(aO _ _ _ _ _ H.out.iE).mono ?_;rintro e w' ⟨rfl,rfl⟩)
  go_ret2
  exact Or.inl ⟨E.out,rfl,Below.refl _ _⟩
def ad2(w:World)(mp fb n:Nat)(L:List Int)(Q:List (Int×Int))(X0:bD)(i:Value)(wr:World):Prop:=
 ∃(k:Nat) (X:bD),i= .int .i64 (k:Int)∧k≤Q.length∧X.pb=X0.pb∧X.mp=mp∧X.fb=fb∧X.n=n∧X.base=w.heap.size∧aK wr X L R0∧X.P=xZ (Q.take k)∧af4 n Q k∧(∀j,X.all j→j=mp∨j=fb∨w.heap.size≤j)∧Below w.heap.size w wr
set_option maxHeartbeats 2000000 in
theorem Iw(mp fb n:Nat)(L:List Int)(Q:List (Int×Int))(v:Value)(w:World)(h:bT w mp fb n L)(hv:wQ w v Q)(h1:1≤Q.length)(h8:Q.length≤8):Calls Tryz.prog 25 #[.pointer (some ⟨mp,0,none⟩),v] w (Au mp fb n L Q w):=by
 have HV:=Lib.hid hv
 obtain⟨a,c,rfl,_⟩:=hv
 have H:=Lib.hid h
 have hn:((n:Int)==0)=false:=by have:=h.pos;simp;omega
 obtain⟨q,hq⟩:∃q,q=Q.length:=⟨_,rfl⟩
 rw[←hq]at h1 h8 ⊢
 have HQ:=Lib.hid hq
 have hq0:((q:Int)==0)=false:=by simp;omega
 have hq8:decide (8<q)=false:=decide_eq_false (by omega)
 clear h hq
 have hmm:=@run_makeMap Tryz.prog
 go_enter Tryz.func25,Tryz.ntmps25
 go_wp2_with(go_at_call 65;refine(aO _ _ _ _ _ H.out.iE).mono ?_;rintro e w' ⟨rfl,rfl⟩)
 obtain⟨w2,hw2⟩:∃w2,w2=(w.alloc (.map #[] 0)).alloc (.cells #[.pointer (some ⟨mp,0,none⟩), .slice none 0 0, .map (some w.heap.size)] 115):=⟨_,rfl⟩
 have hb2:Below w.heap.size w w2:=by rw[hw2];exact ak w _ _
 have PP:Hid (aK w2 ⟨w.heap.size+1,mp,fb,w.heap.size,w.heap.size,n, .slice none 0 0,[],fun _ _=>0⟩ L R0):=Lib.hid ⟨H.out.below hb2,by rw[hw2];exact heap_alloc2_new _ _ _,World.ownsRow_nil _ _ _ _,fun i hi=>absurd hi (Nat.not_lt_zero _),(gY.made w).same (by rw[hw2];exact(heap_alloc2_old w _ _).trans (heap_alloc_new w _).symm),lC.nil n H.out.top,fun i j hi=>absurd hi (Nat.not_lt_zero _)⟩
 have B2:=Lib.hid hb2
 rw[←hw2]
 clear hw2 hb2
 have hL:∀j,(⟨w.heap.size+1,mp,fb,w.heap.size,w.heap.size,n, .slice none 0 0,[],fun _ _=>0⟩:bD).all j→j=mp∨j=fb∨w.heap.size≤j:=fun j hj=>by
  rcases hj with(e|e|e)|e|e|e
  ·exact Or.inr (Or.inl e)
  ·exact Or.inr (Or.inr (by rw[e];exact Nat.le_refl _))
  ·cases e
  ·exact Or.inr (Or.inr (by rw[e];exact Nat.le_succ _))
  ·exact Or.inl e
  ·cases e
 have HL:=Lib.hid hL
 clear hL
 go_loopw [29] (fun i wr=>ad2 w mp fb n L Q ⟨w.heap.size+1,mp,fb,w.heap.size,w.heap.size,n, .slice none 0 0,[],fun _ _=>0⟩ i wr) (fun i _=>q-(intOf i).toNat)
 case atStart=>exact⟨0,_,rfl,Nat.zero_le _,rfl,rfl,rfl,rfl,rfl,PP.out,rfl,fun i hi=>absurd hi (Nat.not_lt_zero _),HL.out,B2.out⟩
 case round=>
  obtain⟨k,X,rfl,hk,x1,x2,x3,x4,x5,hP,hXP,hok,hnew,hB⟩:=hrel
  have P:=Lib.hid hP
  have B:=Lib.hid hB
  have OK:=Lib.hid hok
  have NW:=Lib.hid hnew
  have XP:=Lib.hid hXP
  have X1:=Lib.hid x1
  have X2:=Lib.hid x2
  have X3:=Lib.hid x3
  have X4:=Lib.hid x4
  have X5:=Lib.hid x5
  rw[←HQ.out]at hk
  clear hP hB hok hnew hXP x1 x2 x3 x4 x5
  have KL:Hid (X.T.length=k):=Lib.hid (by rw[←X.iJ,XP.out,Kw,List.length_take,←HQ.out];omega)
  by_cases hlt':k<q
  ·obtain⟨b,o,c',x,y,hsl,hbw,hrow,e0,e1⟩:=pair_cells HV.out k (by rw[←HQ.out];exact hlt')
   obtain⟨rfl,rfl⟩:a=some ⟨b,o,none⟩∧c'=c:=by cases hsl;exact⟨rfl,rfl⟩
   have d0:=(B.out.cell (p:=⟨b,o+k*2,none⟩) hbw).trans e0
   have d1:=(B.out.cell (p:=⟨b,o+k*2+1,none⟩) hbw).trans e1
   have ROW:=Lib.hid hrow
   have hbr:w.heap.size≤wr.heap.size:=B.out.size
   have P1:=Lib.hid (P.out.below ((Below.refl _ _).alloc (Nat.le_refl _) (.cells #[.int .i64 x, .int .i64 y] 64)))
   have B1:=Lib.hid (B.out.alloc B.out.size (.cells #[.int .i64 x, .int .i64 y] 64))
   have C:=aa0 X L x y _ P1.out (by rw[KL.out];omega) (by rw[X5.out];exact B1.out.size)
   rw[X1.out]at C
   have CC:=Lib.hid C
   clear hsl e0 e1 hrow C
   go_wp2_with fail
   refine CC.out.mono ?_
   rintro e w3 (⟨hno,rfl,hb⟩|⟨hyes,rfl,v,s,hp,hs,hv,ho⟩)
   ·have NO:=Lib.hid hno
    have B3:=Lib.hid (B1.out.trans (hb.mono B1.out.size))
    clear hno hb
    go_wp2
    go_ret2
    exact Or.inl ⟨fun e=>NO.out (by have:=e.2 k (by rw[←HQ.out];exact hlt');rw[ROW.out,←XP.out,←X4.out]at this;exact this),rfl,B3.out⟩
   ·have YES:=Lib.hid hyes
    have B3:=Lib.hid (ho.old B1.out B1.out.size (fun j hj=>by
     rcases hj with e|e
     ·rw[e,X1.out];exact Nat.le_succ _
     ·have:=(P1.out.parts.lt j e).1;rw[X5.out]at this;exact this))
    have P3:=Lib.hid hp
    have S3:=Lib.hid (Nat.le_trans B1.out.size hs)
    have V3:=Lib.hid hv
    clear hyes hp hs hv ho
    go_wp2
    go_roundw
    case rel=>
     refine⟨k+1,X.more v s x.toNat y.toNat,by go_num,by rw[←HQ.out];omega,X1.out,X2.out,X3.out,X4.out,X5.out,P3.out,?_,?_,?_,B3.out⟩
     ·rw[bD.P,bD.more,Wz,Sm _ _ (by rw[←HQ.out];exact hlt'),ROW.out]
      exact congrArg (· ++[(x.toNat,y.toNat)]) XP.out
     ·intro j hj
      by_cases e:j=k
      ·subst e
       have:=YES.out
       rw[XP.out,X4.out]at this
       rw[ROW.out];exact this
      ·exact OK.out j (by omega)
     ·rintro j ((e|e|e)|e|e|e)
      ·exact NW.out j (Or.inl (Or.inl e))
      ·exact NW.out j (Or.inl (Or.inr (Or.inl e)))
      ·simp only[bD.more,List.map_append,List.mem_append,List.map_cons,List.map_nil,List.mem_singleton]at e
       rcases e with e|e
       ·exact NW.out j (Or.inl (Or.inr (Or.inr e)))
       ·rw[e];exact Or.inr (Or.inr S3.out)
      ·exact NW.out j (Or.inr (Or.inl e))
      ·exact NW.out j (Or.inr (Or.inr (Or.inl e)))
      ·rcases V3.out j e with e|e
       ·exact NW.out j (Or.inr (Or.inr (Or.inr e)))
       ·exact Or.inr (Or.inr (Nat.le_trans B1.out.size e))
    case measure=>simp[intOf];omega
  ·obtain rfl:k=q:=by omega
   go_wp2
   go_ret2
   refine Or.inr ⟨⟨⟨by rw[←HQ.out];exact h1,by rw[←HQ.out];exact h8⟩,by rw[←HQ.out];exact OK.out⟩,X,by rw[X1.out];rfl,P.out,X2.out,X3.out,X4.out,?_,NW.out,B.out⟩
   rw[XP.out,HQ.out,List.take_length]
theorem zI(mp fb n:Nat)(L:List Int)(Q:List (Int×Int))(v:Value)(w:World)(h:bT w mp fb n L)(hv:wQ w v Q):Calls Tryz.prog 25 #[.pointer (some ⟨mp,0,none⟩),v] w (Au mp fb n L Q w):=by
 by_cases h1:1≤Q.length∧Q.length≤8
 ·exact Iw mp fb n L Q v w h hv h1.1 h1.2
 ·exact Iu mp fb n L Q v w h hv (by omega)
end
section
structure bX(W w:World)(X:bD)(L:List Int)(R:Nat→Nat):Prop where
 st:aK w X L R
 below:Below W.heap.size W w
 new:∀k,X.all k→W.heap.size≤k
 laid:jm W
theorem bX.move{W w w':World}{X:bD}{L L':List Int}{R R':Nat→Nat}(h:bX W w X L R)(k:Moves w w' X L' R'):bX W w' X L' R':=⟨k.st,k.only.old h.below h.below.size (fun j hj=>h.new j (Or.inl hj)),h.new,h.laid⟩
theorem bX.step{W w w':World}{X:bD}{L:List Int}{R:Nat→Nat}(h:bX W w X L R)(k:Below w.heap.size w w'):bX W w' X L R:=⟨h.st.below k,h.below.trans (k.mono h.below.size),h.new,h.laid⟩
theorem bX.table{W w:World}{X:bD}{L:List Int}{R:Nat→Nat}(h:bX W w X L R):jm w:=h.laid.below h.below
theorem bX.af5{W w w':World}{mp fb n:Nat}{L:List Int}{Q:List (Int×Int)}{e:Ending}(hm:xV W w mp fb n L)(hT:jm W)(h:Au mp fb n L Q w e w')(hq:OkQ n Q):
  ∃X:bD,e= .returned (.tuple #[.pointer (some ⟨X.pb,0,none⟩), .int .i64 0])∧bX W w' X L R0∧X.mp=mp∧X.fb=fb∧X.n=n∧X.P=xZ Q∧∀k,X.all k→k=mp∨k=fb∨w.heap.size≤k:=by
 rcases h with⟨hno,_⟩|⟨_,X,he,hp,h1,h2,h3,h4,h5,hb⟩
 ·exact absurd hq hno
 ·refine⟨X,he,⟨hp,hm.below.trans (hb.mono hm.below.size),fun k hk=>?_,hT⟩,h1,h2,h3,h4,h5⟩
  rcases h5 k hk with e|e|e
  ·rw[e];exact hm.lm
  ·rw[e];exact hm.lf
  ·exact Nat.le_trans hm.below.size e
theorem Fx{w w':World}{x y:Int}{t:TypeId}(h:w'.heap[w.heap.size]? =some (.cells #[.int .i64 x, .int .i64 y] t (0,0))):wQ w' (.slice (some ⟨w.heap.size,0,none⟩) 1 1) [(x,y)]:=by
 refine⟨_,_,rfl,Or.inr ⟨_,0,rfl,lt_of_block h,fun i hi=>?_⟩⟩
 have hi:i<1:=hi
 obtain rfl:i=0:=by omega
 rw[cell_of_row _ _ _ _ _ _ h,cell_of_row _ _ _ _ _ _ h]
 exact⟨rfl,rfl⟩
theorem aK.kind{w:World}{X:bD}{L:List Int}{R:Nat→Nat}(h:aK w X L R)(k:Nat)(hk:X.all k):∃o,w.heap[k]? =some o∧(kindOf o=none∨kindOf o=some 278∨kindOf o=some 231∨kindOf o=some 115∨kindOf o=some 110∨kindOf o=some 148):=by
 rcases hk with(e|e|e)|e|e|e
 ·exact⟨_,e▸h.mem.row,Or.inr (Or.inl rfl)⟩
 ·obtain⟨es,ck,hm⟩:=h.refs.isMap
  exact⟨_,e▸hm,Or.inl rfl⟩
 ·obtain⟨t,ht,rfl⟩:=List.mem_map.1 e
  obtain⟨i,hi,e2⟩:=List.getElem_of_mem ht
  have:=(h.sets i hi).box
  rw[List.getD_eq_getElem?_getD,List.getElem?_eq_getElem hi,Option.getD_some,e2]at this
  exact⟨_,this,Or.inr (Or.inr (Or.inl rfl))⟩
 ·exact⟨_,e▸h.box,Or.inr (Or.inr (Or.inr (Or.inl rfl)))⟩
 ·exact⟨_,e▸h.mem.box,Or.inr (Or.inr (Or.inr (Or.inr (Or.inl rfl))))⟩
 ·obtain⟨cs,hcs⟩:=bF h.parts e
  exact⟨_,hcs,Or.inr (Or.inr (Or.inr (Or.inr (Or.inr rfl))))⟩
theorem aK.lt{w:World}{X:bD}{L:List Int}{R:Nat→Nat}(h:aK w X L R)(k:Nat)(hk:X.all k):k<w.heap.size:=by
 obtain⟨o,ho,_⟩:=h.kind k hk
 exact lt_of_block ho
theorem aK.other{w:World}{X:bD}{L:List Int}{R:Nat→Nat}{cs:Array Value}{t:TypeId}{z:Nat×Nat}{b:Nat}(h:aK w X L R)(hb:w.heap[b]? =some (.cells cs t z))(ht:t≠278∧t≠231∧t≠115∧t≠110∧t≠148):¬X.all b:=fun hk=>by
 obtain⟨o,ho,hx⟩:=h.kind b hk
 rw[hb]at ho
 rw[←Option.some.inj ho]at hx
 simp only[kindOf,Option.some.injEq,reduceCtorEq,false_or]at hx
 rcases hx with e|e|e|e|e
 ·exact ht.1 e
 ·exact ht.2.1 e
 ·exact ht.2.2.1 e
 ·exact ht.2.2.2.1 e
 ·exact ht.2.2.2.2 e
end
end Go.Proofs.YtammlljefhakmaaGreatDoor
