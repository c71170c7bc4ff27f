/- Helps of the proof. No condition. -/
import Derived.Test.YtammlljefhakmaaGreatDoorIM
import Derived.Deep.Slices
namespace Go.Proofs.YtammlljefhakmaaGreatDoor
open Go.RowKit Go.Maps
set_option maxRecDepth 100000
section
theorem Ws(q:Nat)(h:1≤q):OkQ (q+5) [(1,(q:Int))]:=by
 refine⟨by simp,fun i hi=>?_⟩
 have hi:i<1:=hi
 obtain rfl:i=0:=by omega
 exact⟨(xJ _ _ _).2 (by simp[List.getD_eq_getElem?_getD];omega),fun j hj=>by simp[Bd]at hj⟩
abbrev D18:Int→Option Sp:=aT (fun _=>none) 1 (some qg)
abbrev G18(s:Pc):Int→Option Pc:=dF (fun _=>none) 1 s
abbrev Wt:List Nd:=[(1,0,1,0)]
theorem abU{n q:Nat}(hn:n≤1024)(h1:1≤q)(hq:q≤65536)(s:Pc):J n q (q-1) D18 (fun _=>0) [(1,0,(q:Int),1)] iw (PG (G18 s)):=by
 have hce:aX [(1,0,(q:Int),0)] 1 ((1:Nat):Int)=0:=gL.2 ⟨bT.2 (by omega),⟨_,rfl⟩,by rw[yK];omega⟩
 have hj:=(J.start (n:=n) hn hq).mY hce
 rw[um]at hj
 have hj2:=hj.open_ (i:=1) rfl (by decide) (by rw[dL];omega)
 rw[jS,show single 1 (1-1)=iw from jR 1]at hj2
 rw[show aD [(1,0,(q:Int),0)] 1 ((1:Nat):Int)=[(1,0,(q:Int),1)]from zq h1]at hj2
 refine hj2.pages fun j F p hj3 hp hF=>?_
 rcases fD hj3 with⟨rfl,rfl⟩|⟨hne,hj3⟩
 ·cases hF
 ·cases hj3
theorem lK.first{n:Int}(hg:aL n Wt)(q:Int)(s:Pc):lK n Wt [1] [(1,0,q,1)] (G18 s):=by
 have hst:∀i,fu Wt i=if i=1 then 1 else 0:=fun i=>by
  unfold fu aH
  by_cases e:(1:Int)=i
  ·rw[if_pos e,if_pos e.symm]
  ·rw[if_neg e,if_neg (fun h=>e h.symm)];rfl
 have hl:∀i,gy Wt i↔i=1:=fun i=>by
  unfold gy
  rw[hst]
  by_cases e:i=1
  ·rw[if_pos e];simp[e]
  ·rw[if_neg e];simp[e]
 refine⟨hg,?_,fun i=>?_,fun i=>?_,fun i=>?_⟩
 ·have hx1:∀x:Nd,x∈Wt→x=(1,0,1,0):=fun x hx=>List.mem_singleton.1 hx
  refine⟨⟨_,rfl,rfl,by decide⟩,fun x hx h2=>?_,fun x hx h3=>?_,fun x hx _=>?_,⟨fun _=>0,rfl,fun x hx hne=>?_⟩⟩
  ·rw[hx1 x hx]at h2;exact absurd h2 (by decide)
  ·rw[hx1 x hx]at h3;exact absurd h3 (by decide)
  ·rw[hx1 x hx]
  ·rw[hx1 x hx]at hne;exact absurd rfl hne
 ·rw[hst,List.mem_singleton]
  by_cases e:i=1
  ·rw[if_pos e];simp[e]
  ·rw[if_neg e];simp[e]
 ·rw[hl,Fy];simp
 ·rw[hl]
  unfold aH
  by_cases e:(1:Int)=i
  ·rw[if_pos e];simp[e]
  ·rw[if_neg e];simp[aH];exact fun h=>e h.symm
def Wu(W:World)(q:Nat)(sl:Int)(e:Ending)(w':World):Prop:=∃(J:mQ) (s:Pc),e= .returned (.tuple #[.pointer (some ⟨J.I.X.pb,0,none⟩), .pointer (some ⟨J.ps,0,none⟩), .bool true])∧s.ar=[]∧J.n=sl∧eD W w' J q (q-1) D18 Wt [1] [(1,0,(q:Int),1)] (G18 s) (fun _ _=>0)
set_option maxHeartbeats 4000000 in
theorem made18_ok(q:Nat)(sl:Int)(W:World)(h1:1≤q)(h2:q≤60)(hs:1≤sl∧sl≤8)(hT:jf W)(hW:aN W):Calls Tryz.prog 29 #[.agg #[.int .i64 (q:Int), .int .i64 sl]] W (Wu W q sl):=by
 have HT:=Lib.hid hT
 have HW:=Lib.hid hW
 have HS:=Lib.hid hs
 have b0: -9223372036854775808≤(q:Int)+5:=by omega
 have b1:(q:Int)+5≤9223372036854775807:=by omega
 have b2: -9223372036854775808≤(q:Int)+1:=by omega
 have b3:(q:Int)+1≤9223372036854775807:=by omega
 have B1:=Lib.hid (Below.alloc (Below.refl W.heap.size W) (Nat.le_refl _) (pcO (q:Int) sl))
 have X1:=Lib.hid (heap_alloc_new W (pcO (q:Int) sl))
 clear hT hW hs
 go_enter Tryz.func29,Tryz.ntmps29
 go_wp2_with fail
 rw[show(q:Int)+5=((q+5:Nat):Int) by omega]
 refine(aa0 (q+5) _ (by omega) (by omega)).mono ?_
 rintro e w1 hp
 obtain⟨mp,fb,rfl,hm,RY,hn1,hn2⟩:∃mp fb,e= .returned (.tuple #[.pointer (some ⟨mp,0,none⟩), .int .i64 0])∧bS w1 mp fb (q+5) (List.replicate ((q+5)*32) 0)∧Below (W.alloc (pcO (q:Int) sl)).heap.size (W.alloc (pcO (q:Int) sl)) w1∧(W.alloc (pcO (q:Int) sl)).heap.size≤mp∧(W.alloc (pcO (q:Int) sl)).heap.size≤fb:=by
  obtain⟨mp,fb,he,hm,h1,h2,hb⟩:=hp
  exact⟨mp,fb,he,hm,hb,h1,h2⟩
 have M1:Hid (AB W w1 mp fb (q+5) (List.replicate ((q+5)*32) 0)):=Lib.hid ⟨hm,B1.out.trans (RY.mono B1.out.size),Nat.le_trans B1.out.size hn1,Nat.le_trans B1.out.size hn2⟩
 have X2:=Lib.hid (below_block RY X1.out)
 have B2:=Lib.hid (B1.out.trans (RY.mono B1.out.size))
 have q0:w1.cell? ⟨W.heap.size,0,none⟩=some (.int .i64 (q:Int)):=by rw[cell_of_row w1 _ 0 _ _ _ X2.out];rfl
 clear hp hm RY hn1 hn2
 go_wp2_with fail
 have M2:=Lib.hid (M1.out.step ((Below.refl _ _).alloc (Nat.le_refl _) (ZU 1 (q:Int))))
 have X3:=Lib.hid (below_block ((Below.refl _ _).alloc (Nat.le_refl _) (ZU 1 (q:Int))) X2.out)
 have B3:=Lib.hid (B2.out.trans (((Below.refl w1.heap.size w1).alloc (Nat.le_refl _) (ZU 1 (q:Int))).mono B2.out.size))
 refine(Jq mp fb (q+5) _ [(1,(q:Int))] _ _ M2.out.st (Qi (heap_alloc_new w1 _))).mono ?_
 rintro e w2 hp
 have hb2:Below (w1.alloc (ZU 1 (q:Int))).heap.size (w1.alloc (ZU 1 (q:Int))) w2:=by
  rcases hp with⟨_,_,hb⟩|⟨_,X,he,hp,h1,h2,h3,h4,h5,hb⟩
  ·exact hb
  ·exact hb
 obtain⟨X,rfl,ho,hmp,_,hn,hP,_⟩:=dQ.afd M2.out HT.out hp (Ws q h1)
 have O:=Lib.hid ho
 have HP:Hid (X.P=dD 1 (q+1) []):=Lib.hid (by rw[hP];simp[Bd])
 have HN:=Lib.hid hn
 have HM:=Lib.hid hmp
 have X4:=Lib.hid (below_block hb2 X3.out)
 clear hp ho hP hn hmp hb2 q0
 have q0:w2.cell? ⟨W.heap.size,0,none⟩=some (.int .i64 (q:Int)):=by rw[cell_of_row w2 _ 0 _ _ _ X4.out];rfl
 have q1:w2.cell? ⟨W.heap.size,1,none⟩=some (.int .i64 sl):=by rw[cell_of_row w2 _ 1 _ _ _ X4.out];rfl
 have NP:=Lib.hid (Zg (lo:=1) (hi:=q+1) (q:=q) (tr:=q+1) (Tp:=[]) O.out HW.out ⟨by omega,by omega⟩ (by omega) HN.out HP.out ⟨h1,by omega⟩ (by omega) ⟨by omega,by omega⟩ HS.out)
 rw[HM.out,show((q+1:Nat):Int)=(q:Int)+1 by omega]at NP
 go_wp2_with fail
 refine NP.out.mono ?_
 rintro e w3 ⟨J,s,rfl,hs,hJn,hpb,_,_,⟨hn,_,_⟩,hp,hx⟩
 have P3:Hid (eD W w3 J q (q-1) D18 Wt [1] [(1,0,(q:Int),1)] (G18 s) (fun _ _=>0)):=Lib.hid (by
  have hp:=hp
  rw[show q+1-1-1=q-1 by omega]at hp
  exact⟨hp.full (by rw[hn];exact abU (by omega) h1 (by omega) s),by rw[hJn];exact lK.first (by rw[←hJn];exact hp.good) _ s,hx⟩)
 have HJ:=Lib.hid (And.intro hJn (And.intro hpb hs))
 clear hs hJn hpb hn hp hx q0 q1
 go_wp2_with fail
 exact bodyPost_ret (v:= .tuple #[.pointer (some ⟨X.pb,0,none⟩), .pointer (some ⟨J.ps,0,none⟩), .bool true]) (by simp[results,Tryz.results29,go_sem]) rfl ⟨J,s,by rw[HJ.out.2.1],HJ.out.2.2,HJ.out.1,P3.out⟩
end
section
def AnyP(W0 w:World)(J:mQ)(q:Nat):Prop:=∃c D T Qu Lb G rg,eD W0 w J q c D T Qu Lb G rg
section
variable {W0 w:World} {J:mQ} {q c:Nat} {D:Int→Option Sp} {T:List Nd} {Qu:List Int} {Lb:List Nd} {G:Int→Option Pc} {rg:Int→Nat→Int}
theorem eD.any(h:eD W0 w J q c D T Qu Lb G rg):AnyP W0 w J q:=⟨_,_,_,_,_,_,_,h⟩
theorem lK.ZW{n:Int}{dn:List Nd}{G':Int→Option Pc}(h:lK n T Qu Lb G)(hL:∀i,(aH i dn).isSome=(aH i Lb).isSome)(hG:∀i,(G' i).isSome=(G i).isSome):lK n T Qu dn G':=
 ⟨h.good,h.wh,h.row,fun i=>by rw[hG,h.jh],fun i=>by rw[hL,h.con]⟩
theorem CO{G:Int→Option Pc}{i:Int}{s t:Pc}(h:G i=some s)(j:Int):(dF G i t j).isSome=(G j).isSome:=by
 by_cases e:j=i
 ·subst e;rw[putG_same,h];rfl
 ·rw[bg _ _ _ e]
theorem zu{G:Int→Option Pc}{i:Int}(h:G i=none):dZ G i≠0:=by
 unfold dZ;rw[h];split<;>decide
theorem eD.ae1(h:eD W0 w J q c D T Qu Lb G rg){i:Int}{s:Pc}(hG:G i=some s)(x y:Int)(d:Bool)(hx:I64 x)(hy:I64 y):
  Calls Tryz.prog 37 #[.pointer (some ⟨J.I.ss,0,none⟩), .int .i64 i, .agg #[.int .i64 x, .int .i64 y, .bool d]] w fun e w'=>∃er M,QH s.ar (x,y,d) er M∧e= .returned (.int .i64 er)∧KeepP w w'∧((er≠0∧eD W0 w' J q c D T Qu Lb G rg)∨(er=0∧∃v,eD W0 w' J q c D T Qu Lb (dF G i (Kv s v M)) rg)):=by
 obtain⟨fm,kw,Q,V,h1,h2⟩:=h.pc.MX
 refine(h1.grow hG x y d hx hy).mono ?_
 rintro e w' ⟨er,M,ha,rfl,hk,⟨hne,hs⟩|⟨h0,v,hs⟩⟩
 ·exact⟨er,M,ha,rfl,KeepP.of hk,Or.inl ⟨hne,h2 hs hk,h.fit,hk.box h.box (by decide)⟩⟩
 ·exact⟨er,M,ha,rfl,KeepP.of hk,Or.inr ⟨h0,v,h2 hs hk,h.fit.ZW (fun _=>rfl) (CO hG),hk.box h.box (by decide)⟩⟩
theorem eD.ae2(h:eD W0 w J q c D T Qu Lb G rg)(i x y:Int)(d:Bool)(hx:I64 x)(hy:I64 y):
  Calls Tryz.prog 37 #[.pointer (some ⟨J.I.ss,0,none⟩), .int .i64 i, .agg #[.int .i64 x, .int .i64 y, .bool d]] w fun e w'=>∃er,e= .returned (.int .i64 er)∧KeepP w w'∧AnyP W0 w' J q:=by
 cases hG:G i with
 |none=>
  obtain⟨fm,kw,Q,V,h1,h2⟩:=h.pc.MX
  refine(h1.YQ i x y d (zu hG)).mono ?_
  rintro e w' ⟨rfl,hb⟩
  exact⟨_,rfl,KeepP.below hb,(h.step hb).any⟩
 |some s=>
  refine(h.ae1 hG x y d hx hy).mono ?_
  rintro e w' ⟨er,M,_,rfl,hk,⟨_,hs⟩|⟨_,v,hs⟩⟩
  ·exact⟨er,rfl,hk,hs.any⟩
  ·exact⟨er,rfl,hk,hs.any⟩
theorem eD.abV(h:eD W0 w J q c D T Qu Lb G rg)(i va x:Int)(hva:0≤va∧va<4294967296)(hx:0≤x∧x<4294967296):
  Calls Tryz.prog 38 #[.pointer (some ⟨J.I.ss,0,none⟩), .int .i64 i, .int .u32 va, .int .u32 x] w fun e w'=>∃er c' D' dn,e= .returned (.int .i64 er)∧KeepP w w'∧eD W0 w' J q c' D' T Qu dn G rg∧(dn=Lb∨∃k:Nat,dn=aD Lb i (k:Int)):=by
 obtain⟨fm,kw,Q,V,h1,h2⟩:=h.pc.MX
 cases hG:G i with
 |none=>
  refine(h1.VG i va x (zu hG)).mono ?_
  rintro e w' ⟨rfl,hb⟩
  exact⟨_,_,_,_,rfl,KeepP.below hb,h.step hb,Or.inl rfl⟩
 | some s=>
  obtain⟨F,hD⟩:=h1.bl.YB hG
  refine(h1.store hG hD va x hva hx).mono ?_
  rintro e w' ⟨rfl,c',D',Q',V',dn,hs,hk,hn,hz⟩
  have hL:dn=Lb∨∃k:Nat,dn=aD Lb i (k:Int):=by
   by_cases h0:qM s.ar Lb F i va 1 true=0
   ·exact Or.inr ⟨_,(hz h0).2⟩
   ·exact Or.inl (hn h0).2.2.2.2
  refine⟨_,c',D',dn,rfl,KeepP.of hk,⟨h2 hs hk,h.fit.ZW (fun j=>?_) (fun _=>rfl),hk.box h.box (by decide)⟩,hL⟩
  rcases hL with e|⟨k,e⟩
  ·rw[e]
  ·rw[e,Fx]
end
end
section
abbrev KU(d p n x y:Int)(b:Bool)(va a:Int):Array Value:=#[.int .i64 d, .int .i64 p, .int .i64 n, .int .i64 x, .int .i64 y, .bool b, .int .u32 va, .int .u32 a]
def ae3(d p n x y va a:Int):Prop:=I64 d∧I64 p∧I64 n∧I64 x∧I64 y∧(0≤va∧va<4294967296)∧0≤a∧a<4294967296
section
variable {W0 w:World} {J:mQ} {q c:Nat} {D:Int→Option Sp} {T:List Nd} {Qu:List Int} {Lb:List Nd} {G:Int→Option Pc} {rg:Int→Nat→Int}
theorem eD.ae4(h:eD W0 w J q c D T Qu Lb G rg){p quota:Int}(hi:I64 p):Calls Tryz.prog 11 #[.pointer (some ⟨J.ps,0,none⟩), .int .i64 p, .int .i64 quota] w fun e w'=>(∃x y,e= .returned (.tuple #[.int .i64 x, .int .i64 y]))∧KeepP w w'∧AnyP W0 w' J q:=by
 refine(h.fork hi).mono ?_
 rintro e w' ⟨rfl,hk,⟨_,hp⟩|⟨_,c',D',G',dn,iZ,hp,_⟩⟩
 ·exact⟨⟨_,_,rfl⟩,hk,hp.any⟩
 ·exact⟨⟨_,_,rfl⟩,hk,hp.any⟩
theorem eD.abW(h:eD W0 w J q c D T Qu Lb G rg){p quota a:Int}(hi:I64 p)(ha:0≤a∧a<4294967296):Calls Tryz.prog 12 #[.pointer (some ⟨J.ps,0,none⟩), .int .i64 p, .int .i64 quota, .int .u32 a] w fun e w'=>(∃x y,e= .returned (.tuple #[.int .i64 x, .int .i64 y]))∧KeepP w w'∧AnyP W0 w' J q:=by
 refine(h.spawn hi ha).mono ?_
 rintro e w' ⟨rfl,hk,⟨_,hp⟩|⟨_,c',D',G',dn,iZ,hp,_⟩⟩
 ·exact⟨⟨_,_,rfl⟩,hk,hp.any⟩
 ·exact⟨⟨_,_,rfl⟩,hk,hp.any⟩
theorem eD.ae5(h:eD W0 w J q c D T Qu Lb G rg){p a:Int}(hi:I64 p)(ha:0≤a∧a<4294967296):Calls Tryz.prog 16 #[.pointer (some ⟨J.ps,0,none⟩), .int .i64 p, .int .u32 a] w fun e w'=>(∃x,e= .returned (.int .i64 x))∧KeepP w w'∧AnyP W0 w' J q:=by
 refine(h.exit hi (by omega)).mono ?_
 rintro e w' ⟨rfl,hk,⟨_,hp⟩|⟨_,c',D',wQ,dn,G',iZ,hp,_⟩⟩
 ·exact⟨⟨_,rfl⟩,hk,hp.any⟩
 ·exact⟨⟨_,rfl⟩,hk,hp.any⟩
theorem eD.ae6(h:eD W0 w J q c D T Qu Lb G rg){p:Int}(hi:I64 p):Calls Tryz.prog 17 #[.pointer (some ⟨J.ps,0,none⟩), .int .i64 p] w fun e w'=>(∃x,e= .returned (.int .i64 x))∧KeepP w w'∧AnyP W0 w' J q:=by
 refine(h.wait hi).mono ?_
 rintro e w' ⟨rfl,hk,⟨_,hp⟩|⟨_,hp⟩⟩
 ·exact⟨⟨_,rfl⟩,hk,hp.any⟩
 ·exact⟨⟨_,rfl⟩,hk,hp.any⟩
theorem eD.ae7(h:eD W0 w J q c D T Qu Lb G rg){p ch a:Int}(hi:I64 ch)(ha:0≤a∧a<4294967296):Calls Tryz.prog 18 #[.pointer (some ⟨J.ps,0,none⟩), .int .i64 p, .int .i64 ch, .int .u32 a] w fun e w'=>(∃x,e= .returned (.int .i64 x))∧KeepP w w'∧AnyP W0 w' J q:=by
 refine(h.kill hi (by omega)).mono ?_
 rintro e w' ⟨rfl,hk,⟨_,hp⟩|⟨_,c',D',wQ,dn,G',iZ,hp,_⟩⟩
 ·exact⟨⟨_,rfl⟩,hk,hp.any⟩
 ·exact⟨⟨_,rfl⟩,hk,hp.any⟩
theorem eD.ae8(h:eD W0 w J q c D T Qu Lb G rg):Calls Tryz.prog 15 #[.pointer (some ⟨J.ps,0,none⟩)] w fun e w'=>e= .returned (.tuple #[])∧KeepP w w'∧AnyP W0 w' J q:=
 h.turn.mono fun _ _ ⟨h1,h2,h3⟩=>⟨h1,h3,h2.any⟩
theorem eD.abX(h:eD W0 w J q c D T Qu Lb G rg)(i va x:Int)(hva:0≤va∧va<4294967296)(hx:0≤x∧x<4294967296):Calls Tryz.prog 38 #[.pointer (some ⟨J.I.ss,0,none⟩), .int .i64 i, .int .u32 va, .int .u32 x] w fun e w'=>(∃x,e= .returned (.int .i64 x))∧KeepP w w'∧AnyP W0 w' J q:=
 (h.abV i va x hva hx).mono fun _ _ ⟨er,_,_,_,h1,h2,h3,_⟩=>⟨⟨er,h1⟩,h2,h3.any⟩
theorem eD.ae9(h:eD W0 w J q c D T Qu Lb G rg)(i x y:Int)(d:Bool)(hx:I64 x)(hy:I64 y):Calls Tryz.prog 37 #[.pointer (some ⟨J.I.ss,0,none⟩), .int .i64 i, .agg #[.int .i64 x, .int .i64 y, .bool d]] w fun e w'=>(∃x,e= .returned (.int .i64 x))∧KeepP w w'∧AnyP W0 w' J q:=
 (h.ae2 i x y d hx hy).mono fun _ _ ⟨er,h1,h2,h3⟩=>⟨⟨er,h1⟩,h2,h3⟩
set_option maxHeartbeats 4000000 in
theorem RO(h:eD W0 w J q c D T Qu Lb G rg){d p n x y va a:Int}(b:Bool)(hok:ae3 d p n x y va a):Calls Tryz.prog 30 #[.pointer (some ⟨J.ps,0,none⟩), .agg (KU d p n x y b va a)] w fun e w'=>e= .returned (.tuple #[])∧KeepP w w'∧AnyP W0 w' J q:=by
 have B1:=Lib.hid (Below.alloc (Below.refl w.heap.size w) (Nat.le_refl _) (.cells (KU d p n x y b va a) 27))
 have H1:=Lib.hid (h.step B1.out)
 have K1:=Lib.hid (KeepP.below B1.out)
 obtain⟨od,op,on,ox,oy,Zh,oa⟩:=hok
 have HI:=Lib.hid (And.intro op (And.intro on (And.intro ox (And.intro oy (And.intro Zh oa)))))
 clear h od op on ox oy Zh oa
 by_cases h1:d=1
 ·subst h1
  have CT:=Lib.hid (H1.out.ae4 (p:=p) (quota:=n) HI.out.1)
  go_enter Tryz.func30,Tryz.ntmps30
  go_wp2_with fail
  refine CT.out.mono ?_
  rintro e w2 ⟨⟨r1,r2,rfl⟩,hk,hp⟩
  have P2:=Lib.hid (And.intro (K1.out.trans hk) hp)
  clear hp hk
  go_wp2_with fail
  go_end0
  exact⟨rfl,P2.out.1,P2.out.2⟩
 have e1:(d==1)=false:=by simpa using h1
 by_cases h2:d=2
 ·subst h2
  have CT:=Lib.hid (H1.out.abW (p:=p) (quota:=n) (a:=a) HI.out.1 HI.out.2.2.2.2.2)
  go_enter Tryz.func30,Tryz.ntmps30
  go_wp2_with fail
  refine CT.out.mono ?_
  rintro e w2 ⟨⟨r1,r2,rfl⟩,hk,hp⟩
  have P2:=Lib.hid (And.intro (K1.out.trans hk) hp)
  clear hp hk
  go_wp2_with fail
  go_end0
  exact⟨rfl,P2.out.1,P2.out.2⟩
 have e2:(d==2)=false:=by simpa using h2
 by_cases h3:d=3
 ·subst h3
  have CT:=Lib.hid (H1.out.ae5 (p:=p) (a:=a) HI.out.1 HI.out.2.2.2.2.2)
  go_enter Tryz.func30,Tryz.ntmps30
  go_wp2_with fail
  refine CT.out.mono ?_
  rintro e w2 ⟨⟨r1,rfl⟩,hk,hp⟩
  have P2:=Lib.hid (And.intro (K1.out.trans hk) hp)
  clear hp hk
  go_wp2_with fail
  go_end0
  exact⟨rfl,P2.out.1,P2.out.2⟩
 have e3:(d==3)=false:=by simpa using h3
 by_cases h4:d=4
 ·subst h4
  have CT:=Lib.hid (H1.out.ae6 (p:=p) HI.out.1)
  go_enter Tryz.func30,Tryz.ntmps30
  go_wp2_with fail
  refine CT.out.mono ?_
  rintro e w2 ⟨⟨r1,rfl⟩,hk,hp⟩
  have P2:=Lib.hid (And.intro (K1.out.trans hk) hp)
  clear hp hk
  go_wp2_with fail
  go_end0
  exact⟨rfl,P2.out.1,P2.out.2⟩
 have e4:(d==4)=false:=by simpa using h4
 by_cases h5:d=5
 ·subst h5
  have CT:=Lib.hid (H1.out.ae7 (p:=p) (ch:=n) (a:=a) HI.out.2.1 HI.out.2.2.2.2.2)
  go_enter Tryz.func30,Tryz.ntmps30
  go_wp2_with fail
  refine CT.out.mono ?_
  rintro e w2 ⟨⟨r1,rfl⟩,hk,hp⟩
  have P2:=Lib.hid (And.intro (K1.out.trans hk) hp)
  clear hp hk
  go_wp2_with fail
  go_end0
  exact⟨rfl,P2.out.1,P2.out.2⟩
 have e5:(d==5)=false:=by simpa using h5
 by_cases h7:d=7
 ·subst h7
  have CT:=Lib.hid (H1.out.ae8)
  go_enter Tryz.func30,Tryz.ntmps30
  go_wp2_with fail
  refine CT.out.mono ?_
  rintro e w2 ⟨rfl,hk,hp⟩
  have P2:=Lib.hid (And.intro (K1.out.trans hk) hp)
  clear hp hk
  go_wp2_with fail
  go_end0
  exact⟨rfl,P2.out.1,P2.out.2⟩
 have e7:(d==7)=false:=by simpa using h7
 by_cases h8:d=8
 ·subst h8
  have SP:=Lib.hid (fun V (hb:Below (w.alloc (.cells (KU 8 p n x y b va a) 27)).heap.size (w.alloc (.cells (KU 8 p n x y b va a) 27)) V)=>(H1.out.step hb).spaces)
  have CT:=Lib.hid (fun V (hb:Below (w.alloc (.cells (KU 8 p n x y b va a) 27)).heap.size (w.alloc (.cells (KU 8 p n x y b va a) 27)) V)=>((H1.out.step hb).ae9 p x y b HI.out.2.2.1 HI.out.2.2.2.1))
  go_enter Tryz.func30,Tryz.ntmps30
  go_wp2_with fail
  obtain⟨w1,hw1⟩:∃w1,w1=w.alloc (.cells (KU 8 p n x y b va a) 27):=⟨_,rfl⟩
  have X1:Hid (w1.heap[w.heap.size]? =some (.cells (KU 8 p n x y b va a) 27 (0,0))):=Lib.hid (by rw[hw1];exact heap_alloc_new w _)
  rw[←hw1]at SP CT K1 ⊢
  clear hw1 H1 B1
  have LC:Hid (∀V,KeepP w1 V→V.cell? ⟨w.heap.size,1,none⟩=some (.int .i64 p)∧V.cell? ⟨w.heap.size,3,none⟩=some (.int .i64 x)∧V.cell? ⟨w.heap.size,4,none⟩=some (.int .i64 y)∧V.cell? ⟨w.heap.size,5,none⟩=some (.bool b)):=Lib.hid fun V hk=>by
   have:=fun i=>cell_of_row V w.heap.size i _ _ _ (hk.box X1.out (by decide))
   exact⟨this 1,this 3,this 4,this 5⟩
  have hL:=LC.out w1 (KeepP.refl _)
  go_region_held3 (fun V=>V.cell? ⟨w.heap.size,1,none⟩=some (.int .i64 p)∧V.cell? ⟨w.heap.size,3,none⟩=some (.int .i64 x)∧V.cell? ⟨w.heap.size,4,none⟩=some (.int .i64 y)∧V.cell? ⟨w.heap.size,5,none⟩=some (.bool b)) (first
    |with_reducible exact LC.out w9 (KeepP.below B9.out)
    |with_reducible exact LC.out w8 K8.out
    |with_reducible exact LC.out _ (KeepP.below (Below.refl _ _).drew))
   (first
    |((go_at_call 23;with_reducible refine(SP.out _ (Below.refl _ _).drew).mono ?_);rintro e w9 ⟨rfl,hb⟩;have B9:Hid (Below w1.heap.size w1 w9):=Lib.hid ((Below.refl _ _).drew.trans hb);clear hb)
    |((go_at_call 37;with_reducible refine(CT.out w9 B9.out).mono ?_);rintro e w8 ⟨⟨er,rfl⟩,hk,hp⟩;have K8:=Lib.hid ((KeepP.below B9.out).trans hk);have P8:=Lib.hid (And.intro (K1.out.trans K8.out) hp);clear hp hk))
  all_goals
   go_wp2_with fail
   go_end0
   exact⟨rfl,P8.out.1,P8.out.2⟩
 have e8:(d==8)=false:=by simpa using h8
 by_cases h9:d=9
 ·subst h9
  have SP:=Lib.hid (fun V (hb:Below (w.alloc (.cells (KU 9 p n x y b va a) 27)).heap.size (w.alloc (.cells (KU 9 p n x y b va a) 27)) V)=>(H1.out.step hb).spaces)
  have CT:=Lib.hid (fun V (hb:Below (w.alloc (.cells (KU 9 p n x y b va a) 27)).heap.size (w.alloc (.cells (KU 9 p n x y b va a) 27)) V)=>((H1.out.step hb).abX p va a HI.out.2.2.2.2.1 HI.out.2.2.2.2.2))
  go_enter Tryz.func30,Tryz.ntmps30
  go_wp2_with fail
  obtain⟨w1,hw1⟩:∃w1,w1=w.alloc (.cells (KU 9 p n x y b va a) 27):=⟨_,rfl⟩
  have X1:Hid (w1.heap[w.heap.size]? =some (.cells (KU 9 p n x y b va a) 27 (0,0))):=Lib.hid (by rw[hw1];exact heap_alloc_new w _)
  rw[←hw1]at SP CT K1 ⊢
  clear hw1 H1 B1
  have LC:Hid (∀V,KeepP w1 V→V.cell? ⟨w.heap.size,1,none⟩=some (.int .i64 p)∧V.cell? ⟨w.heap.size,6,none⟩=some (.int .u32 va)∧V.cell? ⟨w.heap.size,7,none⟩=some (.int .u32 a)):=Lib.hid fun V hk=>by
   have:=fun i=>cell_of_row V w.heap.size i _ _ _ (hk.box X1.out (by decide))
   exact⟨this 1,this 6,this 7⟩
  have hL:=LC.out w1 (KeepP.refl _)
  go_region_held3 (fun V=>V.cell? ⟨w.heap.size,1,none⟩=some (.int .i64 p)∧V.cell? ⟨w.heap.size,6,none⟩=some (.int .u32 va)∧V.cell? ⟨w.heap.size,7,none⟩=some (.int .u32 a)) (first
    |with_reducible exact LC.out w9 (KeepP.below B9.out)
    |with_reducible exact LC.out w8 K8.out
    |with_reducible exact LC.out _ (KeepP.below (Below.refl _ _).drew))
   (first
    |((go_at_call 23;with_reducible refine(SP.out _ (Below.refl _ _).drew).mono ?_);rintro e w9 ⟨rfl,hb⟩;have B9:Hid (Below w1.heap.size w1 w9):=Lib.hid ((Below.refl _ _).drew.trans hb);clear hb)
    |((go_at_call 38;with_reducible refine(CT.out w9 B9.out).mono ?_);rintro e w8 ⟨⟨er,rfl⟩,hk,hp⟩;have K8:=Lib.hid ((KeepP.below B9.out).trans hk);have P8:=Lib.hid (And.intro (K1.out.trans K8.out) hp);clear hp hk))
  all_goals
   go_wp2_with fail
   go_end0
   exact⟨rfl,P8.out.1,P8.out.2⟩
 have e9:(d==9)=false:=by simpa using h9
 go_enter Tryz.func30,Tryz.ntmps30
 go_wp2_with fail
 go_end0
 exact⟨rfl,K1.out,H1.out.any⟩
end
end
section
theorem aea:dM 3 Wt [(1,0,20,1)] 1 6 1=0:=by decide
theorem ZX:(aY [(1,0,20,1)] 1:Int)=1:=by decide
theorem Wv:aB 1 Wt=2:=by decide
theorem aeb:eZ 3 Wt 1=[(1,0,1,0),(2,1,1,0)]:=by decide
theorem aec:aD (bX [(1,0,20,1)] 2 1 6) 2 1=[(1,0,20,1),(2,1,6,1)]:=by decide
theorem aed:dM 3 [(1,0,1,0),(2,1,1,0)] [(1,0,20,1),(2,1,6,1)] 1 14 1=3:=by decide
theorem aee:(aY [(1,0,20,1),(2,1,6,1)] 1:Int)=1:=by decide
theorem aef:aM [(1,0,20,1),(2,1,6,1)] 1=13:=by decide
theorem aeg:iE [(1,0,1,0),(2,1,1,0)] 1=0:=by decide
theorem aeh:iU 3 [(1,0,1,0),(2,1,1,0)] 1=[(1,0,2,0),(2,1,1,0)]:=by decide
theorem aei:iV 3 [(1,0,1,0),(2,1,1,0)] 1=[]:=by decide
theorem aej:eG [(1,0,2,0),(2,1,1,0)] 2=0:=by decide
theorem aek:gu 3 [(1,0,2,0),(2,1,1,0)] 2 7=[(1,0,1,0)]:=by decide
theorem ael:jK 3 [(1,0,2,0),(2,1,1,0)] 2 7=[(1,2,7)]:=by decide
theorem aem:eY (oW 2 [(1,0,20,1),(2,1,6,1)]) 2=[(1,0,20,1)]:=by decide
theorem aen:aM [(1,0,20,1)] 1=19:=by decide
theorem aeo(rg:Int→Nat→Int):zn [(1,0,1,0)] (rD rg [(1,2,7)]) 1=[0,2,7,rg 1 3,rg 1 4,rg 1 5,rg 1 6,rg 1 7]:=by
 have h0:fV [(1,0,1,0)] 1 true=0:=by decide
 unfold zn
 rw[if_pos h0]
 show Hy (yI rg 1 (Rv (1,2,7) (Hy rg 1))) 1= _
 rw[Y7 _ _ (by rfl)]
 rfl
theorem aep:fV [(1,0,1,0)] 1 true=0:=by decide
theorem ag8:eG [(1,0,1,0)] 1=8:=by decide
section
set_option maxHeartbeats 8000000 in
theorem awake18(W:World)(hT:jf W)(hW:aN W):Calls Tryz.prog 27 #[] W fun e w'=>e= .returned (.bool true)∧Below W.heap.size W w':=by
 have hz2:=KG
 have MD:Hid (Calls Tryz.prog 29 #[.agg #[.int .i64 20, .int .i64 3]] W (Wu W 20 3)):=Lib.hid (made18_ok 20 3 W (by decide) (by decide) (by decide) hT hW)
 clear hT hW
 go_enter Tryz.func27,Tryz.ntmps27
 go_wp2_with fail
 refine MD.out.mono ?_
 rintro e w1 ⟨J,s,rfl,_,hJ,hp⟩
 have P1:=Lib.hid hp
 have HJ:=Lib.hid hJ
 clear hp hJ MD
 go_wp2_with fail
 have F1:=Lib.hid (P1.out.fork (p:=1) (quota:=6) (by decide))
 rw[HJ.out,show(((20:Nat):Int))=20 from rfl,ZX,aea,show tu 0 Wt=2 by rw[gQ rfl,Wv]]at F1
 refine F1.out.mono ?_
 rintro e w2 ⟨rfl,_,hp⟩
 have P2:Hid (∃c D G rg,eD W w2 J 20 c D [(1,0,1,0),(2,1,1,0)] [1,2] [(1,0,20,1),(2,1,6,1)] G rg):=Lib.hid (by
  obtain⟨h0,_⟩|⟨_,c',D',G',dn,iZ,hp,_,hL,_⟩:=hp
  ·exact absurd rfl h0
  ·rw[aeb,Wv]at hp
   rw[Wv,ZX,aec]at hL
   subst hL
   exact⟨c',D',G',iZ,hp⟩)
 clear hp F1
 obtain⟨c2,D2,G2,ZY,hp⟩:=P2.out
 have P2:=Lib.hid hp
 clear hp
 go_wp2_with fail
 have F2:=Lib.hid (P2.out.fork (p:=1) (quota:=14) (by decide))
 rw[HJ.out,aee,aed,show ∀T,tu 3 T=0 from fun T=>Cz (by decide)]at F2
 refine F2.out.mono ?_
 rintro e w3 ⟨rfl,_,hp⟩
 have P3:Hid (eD W w3 J 20 c2 D2 [(1,0,1,0),(2,1,1,0)] [1,2] [(1,0,20,1),(2,1,6,1)] G2 ZY):=Lib.hid (by
  obtain⟨_,h⟩|⟨h0,_⟩:=hp
  ·exact h
  ·exact absurd h0 (by decide))
 clear hp F2
 go_wp2_with fail
 refine(P3.out.left 1 (d:=13) aef).mono ?_
 rintro e w4 ⟨rfl,hb⟩
 have P4:=Lib.hid (P3.out.step hb)
 clear hb
 go_wp2_with fail
 have WT:=Lib.hid (P4.out.wait (p:=1) (by decide))
 rw[HJ.out,aeg,aeh,aei]at WT
 refine WT.out.mono ?_
 rintro e w5 ⟨rfl,_,hp⟩
 have P5:Hid (eD W w5 J 20 c2 D2 [(1,0,2,0),(2,1,1,0)] (wtQ J [(1,0,1,0),(2,1,1,0)] [1,2] 1) [(1,0,20,1),(2,1,6,1)] G2 (rD ZY [])):=Lib.hid (by
  obtain⟨h0,_⟩|⟨_,h⟩:=hp
  ·exact absurd rfl h0
  ·exact h)
 clear hp WT
 generalize wtQ J [(1,0,1,0),(2,1,1,0)] [1,2] 1=Q5 at P5
 generalize rD ZY []=rg5 at P5
 go_wp2_with fail
 have EX:=Lib.hid (P5.out.exit (p:=2) (a:=7) (by decide) (by decide))
 rw[HJ.out,aej,aek]at EX
 refine EX.out.mono ?_
 rintro e w6 ⟨rfl,_,hp⟩
 have P6:Hid (∃c D Qu G,eD W w6 J 20 c D [(1,0,1,0)] Qu [(1,0,20,1)] G (rD rg5 [(1,2,7)])):=Lib.hid (by
  obtain⟨h0,_⟩|⟨_,c',D',wQ,dn,G',iZ,hp,hr⟩:=hp
  ·exact absurd rfl h0
  ·have hl:=hr.l
   have hg:=hr.r
   rw[aem]at hl
   rw[HJ.out,ael]at hg
   subst hl hg
   exact⟨c',D',wQ,G',hp⟩)
 clear hp EX
 obtain⟨c6,D6,Q6,G6,hp⟩:=P6.out
 have P6:=Lib.hid hp
 clear hp
 have RG:=Lib.hid (P6.out.regs (p:=1) (by decide))
 rw[aeo,aep]at RG
 generalize rg5 1 3=x3 at RG
 generalize rg5 1 4=x4 at RG
 generalize rg5 1 5=x5 at RG
 generalize rg5 1 6=x6 at RG
 generalize rg5 1 7=x7 at RG
 go_wp2_with fail
 refine RG.out.mono ?_
 rintro e w7 ⟨rfl,hb⟩
 have P7:=Lib.hid (P6.out.step hb)
 clear hb
 have Z7:=Lib.hid (heap_alloc_new w7 (zG z8))
 have B8:=Lib.hid (below_setRow ((Below.refl w7.heap.size w7).alloc (Nat.le_refl _) (zG z8)) (Nat.le_refl _) (ah [0,2,7,x3,x4,x5,x6,x7]))
 have Y8:Hid (((w7.alloc (zG z8)).setRow w7.heap.size (ah [0,2,7,x3,x4,x5,x6,x7])).heap[w7.heap.size]? =some (zG [0,2,7,x3,x4,x5,x6,x7])):=Lib.hid (setRow_heap _ _ _ _ _ _ Z7.out)
 have P8:=Lib.hid (P7.out.step B8.out)
 have r1:((w7.alloc (zG z8)).setRow w7.heap.size (ah [0,2,7,x3,x4,x5,x6,x7])).cell? ⟨w7.heap.size,1,none⟩=some (.int .u32 2):=qO Y8.out rfl 1 (by decide)
 have r2:((w7.alloc (zG z8)).setRow w7.heap.size (ah [0,2,7,x3,x4,x5,x6,x7])).cell? ⟨w7.heap.size,2,none⟩=some (.int .u32 7):=qO Y8.out rfl 2 (by decide)
 go_wp2_with(refine bG Ct rfl (.tmp 11) (.tmp 40) rfl w7.heap.size (ah [0,2,7,x3,x4,x5,x6,x7]) rfl rfl _ Z7.out rfl rfl (jr _) ?_)
 refine(P8.out.left 1 (d:=19) aen).mono ?_
 rintro e w9 ⟨rfl,hb⟩
 have P9:=Lib.hid (P8.out.step hb)
 clear hb
 have EX:=Lib.hid (P9.out.exit (p:=1) (a:=0) (by decide) (by decide))
 rw[ag8]at EX
 go_wp2_with fail
 refine EX.out.mono ?_
 rintro e w10 ⟨rfl,_,hp⟩
 have P10:Hid (Below W.heap.size W w10):=Lib.hid (by
  obtain⟨_,h⟩|⟨h0,_⟩:=hp
  ·exact h.pc.below
  ·exact absurd h0 (by decide))
 clear hp
 go_wp2_with fail
 go_ret
 exact⟨rfl,P10.out⟩
end
end
section
theorem LaidN.awake18{W:World}(hL:LaidN W)(V:World)(hb:Below W.heap.size W V):Calls Tryz.prog 27 #[] V fun e w'=>e= .returned (.bool true)∧Below V.heap.size V w':=Go.Proofs.YtammlljefhakmaaGreatDoor.awake18 V (hL.lq.below hb) (hL.lw.below hb)
def fineB(q sl:Int):Bool:=decide (1≤q)&&(decide (q≤60)&&(decide (1≤sl)&&decide (sl≤8)))
theorem fineB_iff{q sl:Int}:fineB q sl=true↔(1≤q∧q≤60)∧1≤sl∧sl≤8:=by unfold fineB;simp;omega
theorem fine18_ok(q sl:Int)(w:World){b:Bool}(hb:fineB q sl=b):Calls Tryz.prog 28 #[.agg #[.int .i64 q, .int .i64 sl]] w fun e w'=>e= .returned (.bool b)∧Below w.heap.size w w':=by
 have B1:=Lib.hid (Below.alloc (Below.refl w.heap.size w) (Nat.le_refl _) (pcO q sl))
 subst hb
 unfold fineB
 by_cases h1:1≤q
 ·by_cases h2:q≤60
  ·by_cases h3:1≤sl
   ·by_cases h4:sl≤8
    ·rw[decide_eq_true h1,decide_eq_true h2,decide_eq_true h3,decide_eq_true h4]
     go_enter Tryz.func28,Tryz.ntmps28
     go_wp2
     go_ret
     exact⟨rfl,B1.out⟩
    ·rw[decide_eq_true h1,decide_eq_true h2,decide_eq_true h3,decide_eq_false h4]
     go_enter Tryz.func28,Tryz.ntmps28
     go_wp2
     go_ret
     exact⟨rfl,B1.out⟩
   ·rw[decide_eq_true h1,decide_eq_true h2,decide_eq_false h3]
    go_enter Tryz.func28,Tryz.ntmps28
    go_wp2
    go_ret
    exact⟨rfl,B1.out⟩
  ·rw[decide_eq_true h1,decide_eq_false h2]
   go_enter Tryz.func28,Tryz.ntmps28
   go_wp2
   go_ret
   exact⟨rfl,B1.out⟩
 ·rw[decide_eq_false h1]
  go_enter Tryz.func28,Tryz.ntmps28
  go_wp2
  go_ret
  exact⟨rfl,B1.out⟩
structure Op18 where
 d:Int
 p:Int
 n:Int
 x:Int
 y:Int
 b:Bool
 va:Int
 a:Int
instance:Inhabited Op18:=⟨⟨0,0,0,0,0,false,0,0⟩⟩
def Op18.M9(o:Op18):Prop:=ae3 o.d o.p o.n o.x o.y o.va o.a
abbrev Op18.v(o:Op18):Array Value:=KU o.d o.p o.n o.x o.y o.b o.va o.a
structure uy(w:World)(b o:Nat)(q:Op18):Prop where
 c0:w.cell? ⟨b,o,none⟩=some (.int .i64 q.d)
 c1:w.cell? ⟨b,o+1,none⟩=some (.int .i64 q.p)
 c2:w.cell? ⟨b,o+2,none⟩=some (.int .i64 q.n)
 c3:w.cell? ⟨b,o+3,none⟩=some (.int .i64 q.x)
 c4:w.cell? ⟨b,o+4,none⟩=some (.int .i64 q.y)
 c5:w.cell? ⟨b,o+5,none⟩=some (.bool q.b)
 c6:w.cell? ⟨b,o+6,none⟩=some (.int .u32 q.va)
 c7:w.cell? ⟨b,o+7,none⟩=some (.int .u32 q.a)
theorem uy.below{w w':World}{b o:Nat}{q:Op18}(h:uy w b o q)(hb:Below w.heap.size w w')(hlt:b<w.heap.size):uy w' b o q:=by
 have k:∀j,w'.cell? ⟨b,j,none⟩=w.cell? ⟨b,j,none⟩:=fun j=>hb.cell (p:=⟨b,j,none⟩) hlt
 exact⟨(k _).trans h.c0,(k _).trans h.c1,(k _).trans h.c2,(k _).trans h.c3,(k _).trans h.c4,(k _).trans h.c5,(k _).trans h.c6,(k _).trans h.c7⟩
def ArgOps18(w:World)(v:Value)(S:List Op18):Prop:=∃a c,v= .slice a S.length c∧(∀x∈S,x.M9)∧(S=[]∨∃b o,a=some ⟨b,o,none⟩∧b<w.heap.size∧∀i,i<S.length→uy w b (o+i*8) (S.getD i default))
section
variable {W0 w:World} {J:mQ} {q c:Nat} {D:Int→Option Sp} {T:List Nd} {Qu:List Int} {Lb:List Nd} {G:Int→Option Pc} {rg:Int→Nat→Int}
theorem eD.below(h:eD W0 w J q c D T Qu Lb G rg):Below W0.heap.size W0 w:=h.pc.below
theorem AnyP.below(h:AnyP W0 w J q):Below W0.heap.size W0 w:=by
 obtain⟨c,D,T,Qu,Lb,G,rg,h⟩:=h
 exact h.below
theorem AnyP.does(h:AnyP W0 w J q)(o:Op18)(ho:o.M9):Calls Tryz.prog 30 #[.pointer (some ⟨J.ps,0,none⟩), .agg o.v] w fun e w'=>e= .returned (.tuple #[])∧KeepP w w'∧AnyP W0 w' J q:=by
 obtain⟨c,D,T,Qu,Lb,G,rg,h⟩:=h
 exact RO h o.b ho
theorem eD.aer(h:eD W0 w J q c D T Qu Lb G rg):Calls Tryz.prog 35 #[.pointer (some ⟨J.I.X.pb,0,none⟩), .int .i64 0] w fun e w'=>e= .returned (.int .i64 (c:Int))∧Below w.heap.size w w':=h.pc.free
end
end
end Go.Proofs.YtammlljefhakmaaGreatDoor
