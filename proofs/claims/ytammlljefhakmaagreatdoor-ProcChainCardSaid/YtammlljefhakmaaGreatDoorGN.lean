/- Helps of the proof. No condition. -/
import Derived.Test.YtammlljefhakmaaGreatDoorGM
namespace Go.Proofs.YtammlljefhakmaaGreatDoor
open Go.RowKit Go.Maps
set_option maxRecDepth 100000
theorem WM{a b c d:Int}(h:aN [0,a,b,c,d]=0):a=0∧b=0∧c=0∧d=0:=by
 simp only[aN,if_true]at h
 by_cases h1:a=0
 ·rw[if_pos h1]at h
  by_cases h2:b=0
  ·rw[if_pos h2]at h
   by_cases h3:c=0
   ·rw[if_pos h3]at h
    by_cases h4:d=0
    ·exact⟨h1,h2,h3,h4⟩
    ·rw[if_neg h4]at h;exact absurd h h4
   ·rw[if_neg h3]at h;exact absurd h h3
  ·rw[if_neg h2]at h;exact absurd h h2
 ·rw[if_neg h1]at h;exact absurd h h1
theorem KI{S:Nat→Bool}{r:Int}(h:bY S r=0):isSp S r=true:=by
 unfold bY at h
 split at h
 ·assumption
 ·exact absurd h (by decide)
theorem aa7{n:Nat}{L:List Int}{r pg:Int}(h:o8 n L r pg=0):(dB n L r pg).2.1=true:=by
 unfold o8 at h
 split at h
 ·assumption
 ·exact absurd h (by decide)
theorem aa8{n:Nat}{L:List Int}{r pg:Int}(h:Cc n L r pg=0):(dB n L r pg).2.1=false:=by
 unfold Cc at h
 split at h
 ·exact absurd h (by decide)
 ·rename_i hh;simpa using hh
theorem PW{n:Nat}{p x c:Bool}{g:Int}(h:o7 n p x c g=0):p=true∧g<n∧nM p x c g=true:=by
 unfold o7 at h
 split at h
 ·rename_i hh
  unfold KA at hh
  simp only[Bool.and_eq_true,decide_eq_true_eq]at hh
  exact hh
 ·exact absurd h (by decide)
theorem sS{n:Nat}{L:List Int}{r pg:Int}{t o:fQ}(hn:0<n)(h:(t,o)=dB n L r pg):0≤t.2.2.2∧t.2.2.2<n∧(o.1=true→t.1=true):=by
 unfold dB at h
 split at h
 ·rename_i ht
  obtain⟨rfl,rfl⟩:=Prod.mk.inj h
  obtain⟨h1,h2⟩:=WE n L r (pg/32) hn
  exact⟨h1,h2,fun _=>ht⟩
 ·obtain⟨rfl,rfl⟩:=Prod.mk.inj h
  exact⟨by decide,by simp[z0];omega,fun h=>absurd h (by decide)⟩
theorem Cg{S:Nat→Bool}{n:Nat}(hl:∀x,S x=true→x<n){r:Int}(h:isSp S r=true):0≤r∧r<n:=by
 unfold isSp at h
 simp only[Bool.and_eq_true,decide_eq_true_eq]at h
 have:=hl _ h.2
 omega
def El(n:Nat)(L:List Int)(S:Nat→Bool)(r pg:Int)(p x c:Bool)(g:Int):Int:=aN [0,kL pg,o7 n p x c g,bY S r,o8 n L r pg]
def vJ(n:Nat)(L:List Int)(S:Nat→Bool)(r pg:Int)(p x c:Bool)(g:Int):List Int:=if El n L S r pg p x c g=0 then nG L (dB n L r pg).1.2.2.2 (pg%32) (p,x,c,g)else L
set_option maxHeartbeats 2000000 in
theorem ad5{W w:World}{tb sb:Nat}{X:bD}{L:List Int}{R:Nat→Nat}{S:Nat→Bool}(h:Mg W w tb sb X L R S)(r pg:Int)(p x c:Bool)(g:Int)(hr:I64 r)(hp:I64 pg):
  Calls Tryz.prog 161 #[.pointer (some ⟨tb,0,none⟩), .int .i64 r, .int .i64 pg,ent p x c g] w fun e w'=>e= .returned (.int .i64 (El X.n L S r pg p x c g))∧gB W w w' tb sb X (vJ X.n L S r pg p x c g) R S:=by
 obtain⟨wa,oD⟩:∃wa,wa=(w.alloc (eU (p,x,c,g))).alloc (uV r pg p x c g):=⟨_,rfl⟩
 have Qa:MI w wa (p,x,c,g) r pg p x c g:=by rw[oD];exact MI.start _ _ _ _ _ _ _ _
 have hza:wa.heap.size=w.heap.size+1+1:=by rw[oD];simp
 obtain⟨w1,hw1⟩:∃w1,w1=wa.alloc (.cells #[.func (.func 170) #[.pointer (some ⟨tb,0,none⟩)] #[], .func (.func 191) #[] #[], .func (.func 211) #[.pointer (some ⟨tb,0,none⟩)] #[], .func (.func 171) #[.pointer (some ⟨tb,0,none⟩)] #[], .func (.func 192) #[.pointer (some ⟨tb,0,none⟩)] #[]] 298):=⟨_,rfl⟩
 have Q1:=Lib.hid (Qa.step (V':=w1) (by rw[hw1];exact(Below.refl _ _).alloc (Nat.le_refl _) _))
 have hs1:w1.heap[w.heap.size+1+1]? =some (.cells #[.func (.func 170) #[.pointer (some ⟨tb,0,none⟩)] #[], .func (.func 191) #[] #[], .func (.func 211) #[.pointer (some ⟨tb,0,none⟩)] #[], .func (.func 171) #[.pointer (some ⟨tb,0,none⟩)] #[], .func (.func 192) #[.pointer (some ⟨tb,0,none⟩)] #[]] 298 (0,0)):=by rw[hw1,←hza];exact heap_alloc_new wa _
 have M1:=Lib.hid (h.step Q1.out.below)
 have H:=Lib.hid h
 have ASK:=Lib.hid (aa5 M1.out (w.heap.size+1+1) r pg p x c g hr hp hs1)
 have pE:∀(fn:Fn) (first cap:Array Value) (w:World),(Instr.makeFunc fn first cap).run Tryz.prog w= .ok (.func fn first cap) w:=fun _ _ _ _=>rfl
 rw[oD]at hw1
 clear hs1 h Qa hza oD
 clear wa
 obtain⟨k,hk⟩:∃k,k=El X.n L S r pg p x c g:=⟨_,rfl⟩
 have HK:=Lib.hid hk
 clear hk
 go_enter Tryz.func161,Tryz.ntmps161
 go_wp2_with fail
 rw[←show w1=((w.alloc (.cells #[.bool p, .bool x, .bool c, .int .i64 g] 217)).alloc (.cells #[.int .i64 r, .int .i64 pg, .bool p, .bool x, .bool c, .int .i64 g] 257)).alloc (.cells #[.func (.func 170) #[.pointer (some ⟨tb,0,none⟩)] #[], .func (.func 191) #[] #[], .func (.func 211) #[.pointer (some ⟨tb,0,none⟩)] #[], .func (.func 171) #[.pointer (some ⟨tb,0,none⟩)] #[], .func (.func 192) #[.pointer (some ⟨tb,0,none⟩)] #[]] 298)from hw1]
 clear hw1
 refine ASK.out.mono ?_
 rw[show aN [0,kL pg,o7 X.n p x c g,bY S r,o8 X.n L r pg]=k from HK.out.symm]
 rintro e w2 ⟨rfl,hb⟩
 have Q2:=Lib.hid (Q1.out.step hb)
 have M2:=Lib.hid (M1.out.step hb)
 clear hb
 obtain⟨q0,q1,q2,q3,q4,q5⟩:=aa6 Q2.out.req
 by_cases h0:k=0
 ·subst h0
  obtain⟨n1,n2,n3,n4⟩:=WM HK.out.symm
  obtain⟨i0,i1⟩:=ng n1
  obtain⟨j0,j1,j2⟩:=PW n2
  have hm:=aa7 n4
  obtain⟨⟨⟨tp,tx,tc,tg⟩,op,ox,oc,og⟩,he⟩:∃t,t=dB X.n L r pg:=⟨_,rfl⟩
  have HE:=Lib.hid he
  obtain⟨t1,t2,_⟩:=sS M2.out.own.st.mem.pos he
  simp only at t1 t2
  have HA:Hid (vJ X.n L S r pg p x c g=nG L tg (pg%32) (p,x,c,g)):=Lib.hid (by unfold vJ;rw[←HK.out,if_pos rfl,←he])
  have J2:=Lib.hid j2
  have OKF:Hid (j5 X.n tg (pg%32)):=Lib.hid ⟨t1,t2,by omega,by omega⟩
  clear he hm n1 n2 n3 n4 j2 j0 j1 t1 t2
  go_wp2_with(first
   |(go_at_call 200;refine(p8 pg _ i0 i1).mono ?_;rintro e w' ⟨rfl,rfl⟩)
   |(go_at_call 193;refine(uE M2.out r pg p x c g i0 i1 HE.out.symm).mono ?_;rintro e w3 ⟨rfl,hb⟩;have Q4:=Lib.hid (Q2.out.step (hb.trans ((ak w3 (.cells #[.bool tp, .bool tx, .bool tc, .int .i64 tg] 217) (.cells #[.bool op, .bool ox, .bool oc, .int .i64 og] 217)).mono hb.size)));clear hb q0 q1 q2 q3 q4 q5;obtain⟨d0,d1,d2,d3⟩:=aU Q4.out.res)
   |(go_at_call 201;refine(FC (H.out.step Q4.out.below) tg (pg%32) p x c g OKF.out J2.out).mono ?_;rintro e w5 ⟨rfl,ht⟩;have T:=Lib.hid ht;clear ht))
  go_ret
  exact⟨by rw[←HK.out];rfl,by rw[HA.out];exact(gB.stay H.out Q4.out.below).next T.out⟩
 ·have hne:(k !=0)=true:=by simpa using h0
  have HA:Hid (vJ X.n L S r pg p x c g=L):=Lib.hid (by unfold vJ;rw[←HK.out,if_neg h0])
  go_wp2
  go_ret
  exact⟨by rw[←HK.out];rfl,by rw[HA.out];exact gB.stay H.out Q2.out.below⟩
end Go.Proofs.YtammlljefhakmaaGreatDoor
namespace Go.Proofs.YtammlljefhakmaaGreatDoor
open Go.RowKit Go.Maps
set_option maxRecDepth 100000
theorem Mg.ahh{W w:World}{tb sb:Nat}{X:bD}{L:List Int}{R:Nat→Nat}{S:Nat→Bool}(h:Mg W w tb sb X L R S){k:Nat}(hk:mgB X sb k):k<w.heap.size:=by
 rcases hk with hk|rfl
 ·exact h.own.st.lt k (Or.inl hk)
 ·exact h.iK.lt
theorem gB.kept{W w w1 w2:World}{tb sb:Nat}{X:bD}{L L':List Int}{R R':Nat→Nat}{S S':Nat→Bool}(T:gB W w1 w2 tb sb X L' R' S')(h:Mg W w tb sb X L R S){k:Nat}{o:Obj}(hk:w1.heap[k]? =some o)(hge:w.heap.size≤k):w2.heap[k]? =some o:=
 T.only.kept hk (fun e=>by have:=h.ahh e;omega)
theorem gB.far{W w w5 w6:World}{tb sb:Nat}{X:bD}{L L':List Int}{R R':Nat→Nat}{S S':Nat→Bool}(T:gB W w w5 tb sb X L' R' S')(h:Mg W w tb sb X L R S)(hb:Below w.heap.size w5 w6):gB W w w6 tb sb X L' R' S':=by
 have ho:Only w5 w6 (fun k=>w.heap.size≤k):=⟨hb.os,hb.tape,hb.output,hb.size,fun k hk hB=>hb.block k (by omega)⟩
 have hlt:=lt_of_block h.box
 exact⟨⟨⟨T.st.own.st.kept ho (fun k hk e=>by have:=h.own.st.lt k hk;omega),T.st.own.below.trans (hb.mono h.own.below.size),T.st.own.new,T.st.own.laid⟩,T.st.lw,T.st.wd,ho.kept T.st.box (by omega),T.st.iK.same (hb.block _ h.iK.lt),T.st.nt,T.st.ns,T.st.ne,T.st.low⟩,
  hb.os.trans T.only.os,hb.tape.trans T.only.tape,hb.output.trans T.only.output,Nat.le_trans T.only.size hb.size,fun k hk hB=>(hb.block k hk).trans (T.only.block k hk hB)⟩
theorem mg{n:Nat}{P:List (Nat×Nat)}{R:Nat→Nat}(h:lC n P R)(L:List Int):((dG P R 0).2=0∧∃x:Nat,(dG P R 0).1=(x:Int)∧x<n∧fO P R 0 L=putRow L x zeros∧gy P R 0=upd R x 1)∨((dG P R 0).2≠0∧(dG P R 0).1=0∧fO P R 0 L=L∧gy P R 0=R):=by
 unfold dG fO gy
 cases hp:gI P 0 with
 |false=>exact Or.inr ⟨by simp,rfl,rfl,rfl⟩
 | true=>
  have h1:=(ny P 0).1 hp
  simp only[if_true,Int.toNat_zero]
  cases hf:bL (P.getD 0 (0,0)) R with
  |nil=>exact Or.inr ⟨by simp,rfl,rfl,rfl⟩
  |cons x r=>
   have hm:=(fC (P.getD 0 (0,0)) R x).1 (by rw[hf];simp)
   have:=h.rng 0 (by omega)
   exact Or.inl ⟨rfl,x,rfl,by omega,rfl,rfl⟩
theorem sU{n:Nat}{P:List (Nat×Nat)}{R:Nat→Nat}{L:List Int}(h:lC n P R)(hl:L.length=n*32)(hw:Words L):Words (fO P R 0 L):=by
 rcases mg h L with⟨_,x,_,hx,e,_⟩|⟨_,_,e,_⟩
 ·rw[e];exact Sr hw x (by rw[hl];omega)
 ·rw[e];exact hw
def mpE(n:Nat)(L:List Int)(S:Nat→Bool)(r pg:Int)(p x c:Bool)(g:Int):Int:=aN [0,kL pg,o7 n p x c g,bY S r,Cc n L r pg]
def mapA(n:Nat)(P:List (Nat×Nat))(L:List Int)(R:Nat→Nat)(S:Nat→Bool)(r pg:Int)(p x c:Bool)(g:Int):Int×List Int×(Nat→Nat):=
 if mpE n L S r pg p x c g=0 then
  (if(dB n L r pg).1.1=true then(0,nG L (dB n L r pg).1.2.2.2 (pg%32) (p,x,c,g),R)
  else if(dG P R 0).2=0 then(0,nG (nG (fO P R 0 L) r (pg/32) (true,false,false,(dG P R 0).1)) (dG P R 0).1 (pg%32) (p,x,c,g),gy P R 0)
  else((dG P R 0).2,L,R))
 else(mpE n L S r pg p x c g,L,R)
set_option maxHeartbeats 2000000 in
theorem map_ok{W w:World}{tb sb:Nat}{X:bD}{L:List Int}{R:Nat→Nat}{S:Nat→Bool}(h:Mg W w tb sb X L R S)(r pg:Int)(p x c:Bool)(g:Int)(hr:I64 r)(hp:I64 pg):
  Calls Tryz.prog 160 #[.pointer (some ⟨tb,0,none⟩), .int .i64 r, .int .i64 pg,ent p x c g] w fun e w'=>e= .returned (.int .i64 (mapA X.n X.P L R S r pg p x c g).1)∧gB W w w' tb sb X (mapA X.n X.P L R S r pg p x c g).2.1 (mapA X.n X.P L R S r pg p x c g).2.2 S:=by
 obtain⟨wa,oD⟩:∃wa,wa=(w.alloc (eU (p,x,c,g))).alloc (uV r pg p x c g):=⟨_,rfl⟩
 have Qa:MI w wa (p,x,c,g) r pg p x c g:=by rw[oD];exact MI.start _ _ _ _ _ _ _ _
 have hza:wa.heap.size=w.heap.size+1+1:=by rw[oD];simp
 obtain⟨w1,hw1⟩:∃w1,w1=wa.alloc (.cells #[.func (.func 170) #[.pointer (some ⟨tb,0,none⟩)] #[], .func (.func 191) #[] #[], .func (.func 211) #[.pointer (some ⟨tb,0,none⟩)] #[], .func (.func 171) #[.pointer (some ⟨tb,0,none⟩)] #[], .func (.func 212) #[.pointer (some ⟨tb,0,none⟩)] #[]] 298):=⟨_,rfl⟩
 have Q1:=Lib.hid (Qa.step (V':=w1) (by rw[hw1];exact(Below.refl _ _).alloc (Nat.le_refl _) _))
 have hs1:w1.heap[w.heap.size+1+1]? =some (.cells #[.func (.func 170) #[.pointer (some ⟨tb,0,none⟩)] #[], .func (.func 191) #[] #[], .func (.func 211) #[.pointer (some ⟨tb,0,none⟩)] #[], .func (.func 171) #[.pointer (some ⟨tb,0,none⟩)] #[], .func (.func 212) #[.pointer (some ⟨tb,0,none⟩)] #[]] 298 (0,0)):=by rw[hw1,←hza];exact heap_alloc_new wa _
 have M1:=Lib.hid (h.step Q1.out.below)
 have H:=Lib.hid h
 have ASK:=Lib.hid (aa4 M1.out (w.heap.size+1+1) r pg p x c g hr hp hs1)
 have pE:∀(fn:Fn) (first cap:Array Value) (w:World),(Instr.makeFunc fn first cap).run Tryz.prog w= .ok (.func fn first cap) w:=fun _ _ _ _=>rfl
 rw[oD]at hw1
 clear hs1 h Qa hza oD
 clear wa
 obtain⟨k,hk⟩:∃k,k=mpE X.n L S r pg p x c g:=⟨_,rfl⟩
 have HK:=Lib.hid hk
 clear hk
 go_enter Tryz.func160,Tryz.ntmps160
 go_wp2_with fail
 rw[←show w1=((w.alloc (.cells #[.bool p, .bool x, .bool c, .int .i64 g] 217)).alloc (.cells #[.int .i64 r, .int .i64 pg, .bool p, .bool x, .bool c, .int .i64 g] 257)).alloc (.cells #[.func (.func 170) #[.pointer (some ⟨tb,0,none⟩)] #[], .func (.func 191) #[] #[], .func (.func 211) #[.pointer (some ⟨tb,0,none⟩)] #[], .func (.func 171) #[.pointer (some ⟨tb,0,none⟩)] #[], .func (.func 212) #[.pointer (some ⟨tb,0,none⟩)] #[]] 298)from hw1]
 clear hw1
 refine ASK.out.mono ?_
 rw[show aN [0,kL pg,o7 X.n p x c g,bY S r,Cc X.n L r pg]=k from HK.out.symm]
 rintro e w2 ⟨rfl,hb⟩
 have Q2:=Lib.hid (Q1.out.step hb)
 have M2:=Lib.hid (M1.out.step hb)
 clear hb
 obtain⟨q0,q1,q2,q3,q4,q5⟩:=aa6 Q2.out.req
 by_cases h0:k=0
 ·subst h0
  obtain⟨n1,n2,n3,n4⟩:=WM HK.out.symm
  obtain⟨i0,i1⟩:=ng n1
  obtain⟨j0,j1,j2⟩:=PW n2
  have hm:=aa8 n4
  obtain⟨ht0,ht1⟩:=Cg M2.out.low (KI n3)
  obtain⟨⟨⟨tp,tx,tc,tg⟩,op,ox,oc,og⟩,he⟩:∃t,t=dB X.n L r pg:=⟨_,rfl⟩
  have HE:=Lib.hid he
  have J2:=Lib.hid j2
  cases tp with
  | true=>
   obtain⟨t1,t2,_⟩:=sS M2.out.own.st.mem.pos he
   simp only at t1 t2
   have HA:Hid (mapA X.n X.P L R S r pg p x c g=(0,nG L tg (pg%32) (p,x,c,g),R)):=Lib.hid (by unfold mapA;rw[←HK.out,if_pos rfl,←he];rfl)
   have OKF:Hid (j5 X.n tg (pg%32)):=Lib.hid ⟨t1,t2,by omega,by omega⟩
   clear he hm n1 n2 n3 n4 j2 j0 j1 t1 t2 ht0 ht1
   go_wp2_with(first
    |(go_at_call 200;refine(p8 pg _ i0 i1).mono ?_;rintro e w' ⟨rfl,rfl⟩)
    |(go_at_call 193;refine(uE M2.out r pg p x c g i0 i1 HE.out.symm).mono ?_;rintro e w3 ⟨rfl,hb⟩;have Q4:=Lib.hid (Q2.out.step (hb.trans ((ak w3 (.cells #[.bool true, .bool tx, .bool tc, .int .i64 tg] 217) (.cells #[.bool op, .bool ox, .bool oc, .int .i64 og] 217)).mono hb.size)));clear hb q0 q1 q2 q3 q4 q5;obtain⟨d0,d1,d2,d3⟩:=aU Q4.out.res)
    |(go_at_call 201;refine(FC (H.out.step Q4.out.below) tg (pg%32) p x c g OKF.out J2.out).mono ?_;rintro e w5 ⟨rfl,ht⟩;have T:=Lib.hid ht;clear ht))
   go_ret
   exact⟨by rw[HA.out];rfl,by rw[HA.out];exact(gB.stay H.out Q4.out.below).next T.out⟩
  | false=>
   obtain⟨⟨a,er⟩,ha⟩:∃t,t=dG X.P R 0:=⟨_,rfl⟩
   have AA:=Lib.hid ha
   clear hm n1 n2 n3 n4 j2 j0 j1
   go_wp2_with(first
    |(go_at_call 200;refine(p8 pg _ i0 i1).mono ?_;rintro e w' ⟨rfl,rfl⟩)
    |(go_at_call 193;refine(uE M2.out r pg p x c g i0 i1 HE.out.symm).mono ?_;rintro e w3 ⟨rfl,hb⟩))
   have QB:Hid (Below w2.heap.size w2 ((w3.alloc (.cells #[.bool false, .bool tx, .bool tc, .int .i64 tg] 217)).alloc (.cells #[.bool op, .bool ox, .bool oc, .int .i64 og] 217))):=Lib.hid (hb.trans ((ak w3 _ _).mono hb.size))
   have hw4:=heap_alloc2_old w3 (.cells #[.bool false, .bool tx, .bool tc, .int .i64 tg] 217) (.cells #[.bool op, .bool ox, .bool oc, .int .i64 og] 217)
   have hlt:w2.heap.size≤w3.heap.size:=hb.size
   clear hb q0 q1 q2 q3 q4 q5
   generalize(w3.alloc (.cells #[.bool false, .bool tx, .bool tc, .int .i64 tg] 217)).alloc (.cells #[.bool op, .bool ox, .bool oc, .int .i64 og] 217)=w4 at*
   have T4:Hid (gB W w w4 tb sb X L R S):=Lib.hid (gB.stay H.out (Q2.out.below.trans (QB.out.mono Q2.out.below.size)))
   have Q4:=Lib.hid (Q2.out.step QB.out)
   have D4:Hid (Below w4.heap.size w4 w4.drew):=Lib.hid (Below.refl _ _).drew
   have hge:w.heap.size≤w3.heap.size:=Nat.le_trans Q2.out.below.size hlt
   have hne:w3.heap.size≠w.heap.size:=fun e=>by have:=lt_of_block Q2.out.req;omega
   have B4:=Lib.hid (show w4.heap[w3.heap.size]? =some (eU (false,tx,tc,tg))from hw4)
   have c1:=T4.out.st.c1
   have c2:=T4.out.st.c2
   have HW:=Lib.hid (sU T4.out.st.own.st.fit T4.out.st.own.st.mem.len T4.out.st.wd)
   clear hw4 QB Q2 M2
   go_region_held3 (fun w'=>w'.cell? ⟨tb,1,none⟩=some (.pointer (some ⟨X.pb,0,none⟩))∧w'.cell? ⟨tb,2,none⟩=some (.int .i64 0)) (first|go_keep|exact⟨c5,d5⟩)
    (first|(go_at_call 185;refine(Ca (w:=w4.drew) AA.out.symm rfl rfl (T4.out.st.own.st.below D4.out) (T4.out.st.step D4.out).own.table).mono ?_;rintro e w5 ⟨rfl,hp⟩;have T5:=Lib.hid ((T4.out.st.step D4.out).move hp HW.out);clear hp;have c5:=T5.out.st.c1;have d5:=T5.out.st.c2))
   have T5':=Lib.hid ((T4.out.far H.out (Below.refl _ _).drew).next T5.out)
   have B5:=Lib.hid (T5.out.kept H.out (show w4.drew.heap[w3.heap.size]? =some (eU (false,tx,tc,tg))from B4.out) hge)
   have E5:=Lib.hid (T5.out.kept H.out (show w4.drew.heap[w.heap.size]? =some (eU (p,x,c,g))from Q4.out.res) (Nat.le_refl _))
   clear c1 c2 c5 d5 T5 B4 Q4 D4 T4
   by_cases her:er=0
   ·subst her
    rcases mg M1.out.own.st.fit L with⟨_,y,hy,hyn,_,_⟩|⟨hx,_⟩
    ·rw[←AA.out]at hy
     simp only at hy
     subst hy
     have HA:Hid (mapA X.n X.P L R S r pg p x c g=(0,nG (nG (fO X.P R 0 L) r (pg/32) (true,false,false,(y:Int))) (y:Int) (pg%32) (p,x,c,g),gy X.P R 0)):=Lib.hid (by unfold mapA;rw[←HK.out,if_pos rfl,←he,if_neg (by simp),←AA.out,if_pos rfl])
     have f0:=frozen_of_row w5 w3.heap.size 0 _ _ B5.out
     have f1:=frozen_of_row w5 w3.heap.size 1 _ _ B5.out
     have f2:=frozen_of_row w5 w3.heap.size 2 _ _ B5.out
     have f3:=frozen_of_row w5 w3.heap.size 3 _ _ B5.out
     obtain⟨k0,k1,k2,k3⟩:=aU B5.out
     have B6:=Lib.hid (gL (e':=(true,false,false,(y:Int))) B5.out)
     have E6:=Lib.hid ((jU (e':=(true,false,false,(y:Int))) (w:=w5) hne.symm).trans E5.out)
     have T6:=Lib.hid (T5'.out.far H.out (dM (e':=(true,false,false,(y:Int))) (Below.refl _ w5) hge))
     have OK1:Hid (j5 X.n r (pg/32)):=Lib.hid ⟨ht0,ht1,by omega,by omega⟩
     have OK2:Hid (j5 X.n (y:Int) (pg%32)):=Lib.hid ⟨by omega,by omega,by omega,by omega⟩
     have OKE:Hid (nM true false false (y:Int)=true):=Lib.hid (by have:=M1.out.own.st.mem.top;simp[nM];omega)
     obtain⟨w6,hw6⟩:∃w6,w6=jr w5 w3.heap.size (true,false,false,(y:Int)):=⟨_,rfl⟩
     rw[←hw6]at B6 E6 T6
     clear he ha
     go_wp2_with fail
     rw[←show w6=(((w5.setCell ⟨w3.heap.size,0,none⟩ (.bool true)).setCell ⟨w3.heap.size,1,none⟩ (.bool false)).setCell ⟨w3.heap.size,2,none⟩ (.bool false)).setCell ⟨w3.heap.size,3,none⟩ (.int .i64 (y:Int))from hw6]
     clear hw6 f0 f1 f2 f3 k0 k1 k2 k3 B5 E5 T5'
     refine(FC T6.out.st r (pg/32) true false false (y:Int) OK1.out OKE.out).mono ?_
     rintro e w7 ⟨rfl,ht⟩
     have T7:=Lib.hid (T6.out.next ht)
     have B7:=Lib.hid (ht.kept H.out B6.out hge)
     have E7:=Lib.hid (ht.kept H.out E6.out (Nat.le_refl _))
     obtain⟨k0,k1,k2,k3⟩:=aU B7.out
     obtain⟨l0,l1,l2,l3⟩:=aU E7.out
     clear ht T6 B6 E6
     go_wp2_with fail
     refine(FC T7.out.st (y:Int) (pg%32) p x c g OK2.out J2.out).mono ?_
     rintro e w8 ⟨rfl,ht⟩
     have T8:=Lib.hid (T7.out.next ht)
     clear ht T7
     go_wp2
     go_ret
     exact⟨by rw[HA.out];rfl,by rw[HA.out];exact T8.out⟩
    ·rw[←AA.out]at hx
     exact absurd rfl hx
   ·have hne2:(er !=0)=true:=by simpa using her
    rcases mg M1.out.own.st.fit L with⟨hx,_⟩|⟨_,_,hy,hz⟩
    ·rw[←AA.out]at hx
     exact absurd hx her
    ·have HA:Hid (mapA X.n X.P L R S r pg p x c g=(er,L,R)):=Lib.hid (by unfold mapA;rw[←HK.out,if_pos rfl,←he,if_neg (by simp),←AA.out,if_neg her])
     rw[hy,hz]at T5'
     go_wp2
     go_ret
     exact⟨by rw[HA.out];rfl,by rw[HA.out];exact T5'.out⟩
 ·have hne:(k !=0)=true:=by simpa using h0
  have HA:Hid (mapA X.n X.P L R S r pg p x c g=(k,L,R)):=Lib.hid (by unfold mapA;rw[←HK.out,if_neg h0])
  go_wp2
  go_ret
  exact⟨by rw[HA.out];rfl,by rw[HA.out];exact gB.stay H.out Q2.out.below⟩
end Go.Proofs.YtammlljefhakmaaGreatDoor
namespace Go.Proofs.YtammlljefhakmaaGreatDoor
open Go.RowKit Go.Maps
set_option maxRecDepth 100000
def yj(n:Nat)(P:List (Nat×Nat))(L:List Int)(R:Nat→Nat)(S:Nat→Bool)(r pg:Int):fQ×Int×List Int×(Nat→Nat):=
 if qL n L S r pg=0 then((dB n L r pg).2,0,
  if mR n (nG L (dB n L r pg).1.2.2.2 (pg%32) z0) (dB n L r pg).1.2.2.2=true then nG (nG L (dB n L r pg).1.2.2.2 (pg%32) z0) r (pg/32) z0 else nG L (dB n L r pg).1.2.2.2 (pg%32) z0,
  if mR n (nG L (dB n L r pg).1.2.2.2 (pg%32) z0) (dB n L r pg).1.2.2.2=true then l9 P R (dB n L r pg).1.2.2.2 else R)
 else(z0,qL n L S r pg,L,R)
set_option maxHeartbeats 2000000 in
theorem WO{W w:World}{tb sb:Nat}{X:bD}{L:List Int}{R:Nat→Nat}{S:Nat→Bool}(h:Mg W w tb sb X L R S)(r pg:Int)(hr:I64 r)(hp:I64 pg):
  Calls Tryz.prog 142 #[.pointer (some ⟨tb,0,none⟩), .int .i64 r, .int .i64 pg] w fun e w'=>e= .returned (.tuple #[iB (yj X.n X.P L R S r pg).1, .int .i64 (yj X.n X.P L R S r pg).2.1])∧gB W w w' tb sb X (yj X.n X.P L R S r pg).2.2.1 (yj X.n X.P L R S r pg).2.2.2 S:=by
 obtain⟨wa,oD⟩:∃wa,wa=(w.alloc (eU z0)).alloc (uV r pg false false false 0):=⟨_,rfl⟩
 have Qa:MI w wa z0 r pg false false false 0:=by rw[oD];exact MI.start _ _ _ _ _ _ _ _
 have hza:wa.heap.size=w.heap.size+1+1:=by rw[oD];simp
 obtain⟨w1,hw1⟩:∃w1,w1=wa.alloc (.cells #[.func (.func 170) #[.pointer (some ⟨tb,0,none⟩)] #[], .func (.func 191) #[] #[], .func (.func 171) #[.pointer (some ⟨tb,0,none⟩)] #[], .func (.func 192) #[.pointer (some ⟨tb,0,none⟩)] #[]] 298):=⟨_,rfl⟩
 have Q1:=Lib.hid (Qa.step (V':=w1) (by rw[hw1];exact(Below.refl _ _).alloc (Nat.le_refl _) _))
 have hs1:w1.heap[w.heap.size+1+1]? =some (.cells #[.func (.func 170) #[.pointer (some ⟨tb,0,none⟩)] #[], .func (.func 191) #[] #[], .func (.func 171) #[.pointer (some ⟨tb,0,none⟩)] #[], .func (.func 192) #[.pointer (some ⟨tb,0,none⟩)] #[]] 298 (0,0)):=by rw[hw1,←hza];exact heap_alloc_new wa _
 have M1:=Lib.hid (h.step Q1.out.below)
 have H:=Lib.hid h
 have ASK:=Lib.hid (FJ M1.out (w.heap.size+1+1) r pg false false false 0 hr hp hs1)
 have pE:∀(fn:Fn) (first cap:Array Value) (w:World),(Instr.makeFunc fn first cap).run Tryz.prog w= .ok (.func fn first cap) w:=fun _ _ _ _=>rfl
 rw[oD]at hw1
 clear hs1 h Qa hza oD
 clear wa
 obtain⟨k,hk⟩:∃k,k=qL X.n L S r pg:=⟨_,rfl⟩
 have HK:=Lib.hid hk
 clear hk
 go_enter Tryz.func142,Tryz.ntmps142
 go_wp2_with fail
 rw[←show w1=((w.alloc (.cells #[.bool false, .bool false, .bool false, .int .i64 0] 217)).alloc (.cells #[.int .i64 r, .int .i64 pg, .bool false, .bool false, .bool false, .int .i64 0] 257)).alloc (.cells #[.func (.func 170) #[.pointer (some ⟨tb,0,none⟩)] #[], .func (.func 191) #[] #[], .func (.func 171) #[.pointer (some ⟨tb,0,none⟩)] #[], .func (.func 192) #[.pointer (some ⟨tb,0,none⟩)] #[]] 298)from hw1]
 clear hw1
 refine ASK.out.mono ?_
 rw[show aN [0,kL pg,bY S r,o8 X.n L r pg]=k from HK.out.symm]
 rintro e w2 ⟨rfl,hb⟩
 have Q2:=Lib.hid (Q1.out.step hb)
 have M2:=Lib.hid (M1.out.step hb)
 clear hb
 obtain⟨q0,q1,q2,q3,q4,q5⟩:=aa6 Q2.out.req
 by_cases h0:k=0
 ·subst h0
  obtain⟨⟨n0,n1⟩,hsp,hm⟩:=zL HK.out.symm
  obtain⟨⟨⟨tp,tx,tc,tg⟩,op,ox,oc,og⟩,he⟩:∃t,t=dB X.n L r pg:=⟨_,rfl⟩
  have HE:=Lib.hid he
  obtain⟨t1,t2,t3⟩:=sS M2.out.own.st.mem.pos he
  simp only at t1 t2
  obtain⟨ht0,ht1⟩:=Cg M2.out.low hsp
  have OKF:Hid (j5 X.n tg (pg%32)):=Lib.hid ⟨t1,t2,by omega,by omega⟩
  have OKR:Hid (j5 X.n r (pg/32)):=Lib.hid ⟨ht0,ht1,by omega,by omega⟩
  have hi:Hid (I64 tg):=Lib.hid ⟨by omega,by have:=M1.out.own.st.mem.top;omega⟩
  obtain⟨bb,hbb⟩:∃b,b=mR X.n (nG L tg (pg%32) z0) tg:=⟨_,rfl⟩
  have HBB:=Lib.hid hbb
  have HA:Hid (yj X.n X.P L R S r pg=((op,ox,oc,og),0,if bb=true then nG (nG L tg (pg%32) z0) r (pg/32) z0 else nG L tg (pg%32) z0,if bb=true then l9 X.P R tg else R)):=Lib.hid (by unfold yj;rw[←HK.out,if_pos rfl,←he,←hbb])
  clear he hsp hm hbb t1 t2 t3 ht0 ht1
  go_wp2_with(first
   |(go_at_call 200;refine(p8 pg _ n0 n1).mono ?_;rintro e w' ⟨rfl,rfl⟩)
   |(go_at_call 193;refine(uE M2.out r pg false false false 0 n0 n1 HE.out.symm).mono ?_;rintro e w3 ⟨rfl,hb⟩;have A4:=Lib.hid (ak w3 (.cells #[.bool tp, .bool tx, .bool tc, .int .i64 tg] 217) (.cells #[.bool op, .bool ox, .bool oc, .int .i64 og] 217))))
  have hw4:=heap_alloc2_old w3 (.cells #[.bool tp, .bool tx, .bool tc, .int .i64 tg] 217) (.cells #[.bool op, .bool ox, .bool oc, .int .i64 og] 217)
  have hw5:=heap_alloc2_new w3 (.cells #[.bool tp, .bool tx, .bool tc, .int .i64 tg] 217) (.cells #[.bool op, .bool ox, .bool oc, .int .i64 og] 217)
  have Q4:=Lib.hid (Q2.out.step (hb.trans (A4.out.mono hb.size)))
  have hge:w.heap.size≤w3.heap.size:=Nat.le_trans Q2.out.below.size hb.size
  have hlr:=lt_of_block Q2.out.res
  have hz3:w2.heap.size≤w3.heap.size:=hb.size
  clear q0 q1 q2 q3 q4 q5 A4 hb
  generalize(w3.alloc (.cells #[.bool tp, .bool tx, .bool tc, .int .i64 tg] 217)).alloc (.cells #[.bool op, .bool ox, .bool oc, .int .i64 og] 217)=w4 at*
  have T4:=Lib.hid (gB.stay H.out Q4.out.below)
  refine(FC T4.out.st tg (pg%32) false false false 0 OKF.out (by decide)).mono ?_
  rintro e w5 ⟨rfl,ht⟩
  have T5:=Lib.hid (T4.out.next ht)
  have B5:=Lib.hid (ht.kept H.out hw4 hge)
  have O5:=Lib.hid (ht.kept H.out hw5 (by omega))
  have Q5:=Lib.hid (ht.kept H.out Q4.out.res (Nat.le_refl _))
  clear ht hw4 hw5 Q4 T4
  obtain⟨k0,k1,k2,k3⟩:=aU (e:=(tp,tx,tc,tg)) B5.out
  go_wp2_with fail
  refine(PK T5.out.st tg).mono ?_
  rintro e w6 ⟨rfl,hb⟩
  rw[show mR X.n (nG L tg (pg%32) (false,false,false,0)) tg=bb from HBB.out.symm]
  have T6:=Lib.hid (T5.out.next (gB.stay T5.out.st hb))
  have B6:=Lib.hid (below_block hb B5.out)
  have O6:=Lib.hid (below_block hb O5.out)
  have Q6:=Lib.hid (below_block hb Q5.out)
  clear hb k0 k1 k2 k3 B5 O5 Q5 T5
  have fin:Hid (∀(w9:World) (L':List Int) (R':Nat→Nat),gB W w w9 tb sb X L' R' S→w9.heap[w.heap.size]? =some (eU z0)→gB W w (jr w9 w.heap.size (op,ox,oc,og)) tb sb X L' R' S):=Lib.hid fun w9 L' R' T9 hq=>T9.far H.out (dM (Below.refl _ _) (Nat.le_refl _))
  cases bb with
  |true=>
   go_wp2_with fail
   refine(FC T6.out.st r (pg/32) false false false 0 OKR.out (by decide)).mono ?_
   rintro e w7 ⟨rfl,ht⟩
   have T7:=Lib.hid (T6.out.next ht)
   have B7:=Lib.hid (ht.kept H.out B6.out hge)
   have O7:=Lib.hid (ht.kept H.out O6.out (by omega))
   have Q7:=Lib.hid (ht.kept H.out Q6.out (Nat.le_refl _))
   clear ht B6 O6 Q6 T6
   obtain⟨k0,k1,k2,k3⟩:=aU (e:=(tp,tx,tc,tg)) B7.out
   go_wp2_with fail
   refine(Pz T7.out.st tg hi.out rfl).mono ?_
   rintro e w8 ⟨rfl,ht⟩
   have T8:=Lib.hid (T7.out.next ht)
   have O8:=Lib.hid (ht.kept H.out O7.out (by omega))
   have Q8:=Lib.hid (ht.kept H.out Q7.out (Nat.le_refl _))
   clear ht B7 O7 Q7 T7 k0 k1 k2 k3
   obtain⟨k0,k1,k2,k3⟩:=aU (e:=(op,ox,oc,og)) O8.out
   obtain⟨l0,l1,l2,l3⟩:=aU Q8.out
   have f0:=frozen_of_row w8 w.heap.size 0 _ _ Q8.out
   have f1:=frozen_of_row w8 w.heap.size 1 _ _ Q8.out
   have f2:=frozen_of_row w8 w.heap.size 2 _ _ Q8.out
   have f3:=frozen_of_row w8 w.heap.size 3 _ _ Q8.out
   go_wp2
   have Q9:=gL (e':=(op,ox,oc,og)) Q8.out
   have T9:=fin.out w8 _ _ T8.out Q8.out
   obtain⟨e0,e1,e2,e3⟩:=aU Q9
   simp only[jr]at e0 e1 e2 e3
   refine bodyPost_ret (v:= .tuple #[iB (op,ox,oc,og), .int .i64 0]) ?_ rfl ⟨by rw[HA.out],by rw[HA.out];exact T9⟩
   simp[results,Tryz.results142,go_sem,e0,e1,e2,e3,iB]
  |false=>
   have T8:=Lib.hid T6.out
   have O8:=Lib.hid O6.out
   have Q8:=Lib.hid Q6.out
   clear B6 O6 Q6 T6
   obtain⟨k0,k1,k2,k3⟩:=aU (e:=(op,ox,oc,og)) O8.out
   obtain⟨l0,l1,l2,l3⟩:=aU Q8.out
   have f0:=frozen_of_row w6 w.heap.size 0 _ _ Q8.out
   have f1:=frozen_of_row w6 w.heap.size 1 _ _ Q8.out
   have f2:=frozen_of_row w6 w.heap.size 2 _ _ Q8.out
   have f3:=frozen_of_row w6 w.heap.size 3 _ _ Q8.out
   go_wp2
   have Q9:=gL (e':=(op,ox,oc,og)) Q8.out
   have T9:=fin.out w6 _ _ T8.out Q8.out
   obtain⟨e0,e1,e2,e3⟩:=aU Q9
   simp only[jr]at e0 e1 e2 e3
   refine bodyPost_ret (v:= .tuple #[iB (op,ox,oc,og), .int .i64 0]) ?_ rfl ⟨by rw[HA.out],by rw[HA.out];exact T9⟩
   simp[results,Tryz.results142,go_sem,e0,e1,e2,e3,iB]
 ·have hne:(k !=0)=true:=by simpa using h0
  have HA:Hid (yj X.n X.P L R S r pg=(z0,k,L,R)):=Lib.hid (by unfold yj;rw[←HK.out,if_neg h0])
  have f0:=frozen_of_row _ w.heap.size 0 _ _ Q2.out.res
  have f1:=frozen_of_row _ w.heap.size 1 _ _ Q2.out.res
  have f2:=frozen_of_row _ w.heap.size 2 _ _ Q2.out.res
  have f3:=frozen_of_row _ w.heap.size 3 _ _ Q2.out.res
  obtain⟨d0,d1,d2,d3⟩:=aU Q2.out.res
  clear q0 q1 q2 q3 q4 q5
  go_wp2
  have Q5:=Q2.out.put z0
  obtain⟨e0,e1,e2,e3⟩:=aU Q5.res
  simp only[jr,z0]at e0 e1 e2 e3
  refine bodyPost_ret (v:= .tuple #[iB z0, .int .i64 k]) ?_ rfl ⟨by rw[HA.out],by rw[HA.out];exact gB.stay H.out Q5.below⟩
  simp[results,Tryz.results142,go_sem,e0,e1,e2,e3,iB,z0]
end Go.Proofs.YtammlljefhakmaaGreatDoor
namespace Go.Proofs.YtammlljefhakmaaGreatDoor
open Go.RowKit Go.Maps
set_option maxRecDepth 100000
def yt(n:Nat)(L:List Int)(S:Nat→Bool)(r:Int):Int:=aN [0,bY S r,pq n L r]
def nT(n:Nat)(P:List (Nat×Nat))(L:List Int)(R:Nat→Nat)(S:Nat→Bool)(r:Int):Int×(Nat→Nat)×(Nat→Bool):=
 if yt n L S r=0 then(0,l9 P R r,pY S r.toNat false)else(yt n L S r,R,S)
theorem Sz{n:Nat}{L:List Int}{r:Int}(h:pq n L r=0):mR n L r=true:=by
 unfold pq at h
 generalize mR n L r=b at*
 cases b with
 |true=>rfl
 |false=>exact absurd h (by decide)
theorem ad7{a b:Int}(h:aN [0,a,b]=0):a=0∧b=0:=by
 simp only[aN,if_true]at h
 by_cases h1:a=0
 ·rw[if_pos h1]at h
  by_cases h2:b=0
  ·exact⟨h1,h2⟩
  ·rw[if_neg h2]at h;exact absurd h h2
 ·rw[if_neg h1]at h;exact absurd h h1
theorem KJ{n:Nat}{L:List Int}{S:Nat→Bool}{r:Int}(h:yt n L S r=0):isSp S r=true∧mR n L r=true:=by
 obtain⟨h1,h2⟩:=ad7 h
 exact⟨KI h1,Sz h2⟩
theorem aa9{S:Nat→Bool}{n:Nat}(hl:∀x,S x=true→x<n)(y:Nat):∀x,pY S y false x=true→x<n:=fun x hx=>by
 unfold pY at hx
 split at hx
 ·cases hx
 ·exact hl x hx
theorem ad8{S:Nat→Bool}{n:Nat}(hl:∀x,S x=true→x<n)(y:Nat)(hy:y<n):∀x,pY S y true x=true→x<n:=fun x hx=>by
 unfold pY at hx
 split at hx
 ·rename_i e;rw[e];exact hy
 ·exact hl x hx
set_option maxHeartbeats 2000000 in
theorem WS{W w:World}{tb sb:Nat}{X:bD}{L:List Int}{R:Nat→Nat}{S:Nat→Bool}(h:Mg W w tb sb X L R S)(r:Int)(hr:I64 r):
  Calls Tryz.prog 109 #[.pointer (some ⟨tb,0,none⟩), .int .i64 r] w fun e w'=>e= .returned (.int .i64 (nT X.n X.P L R S r).1)∧gB W w w' tb sb X L (nT X.n X.P L R S r).2.1 (nT X.n X.P L R S r).2.2:=by
 obtain⟨w1,hw1⟩:∃w1,w1=w.alloc (.cells #[.func (.func 170) #[.pointer (some ⟨tb,0,none⟩)] #[], .func (.func 171) #[.pointer (some ⟨tb,0,none⟩)] #[], .func (.func 172) #[.pointer (some ⟨tb,0,none⟩)] #[]] 298):=⟨_,rfl⟩
 have B1:Hid (Below w.heap.size w w1):=Lib.hid (by rw[hw1];exact(Below.refl _ _).alloc (Nat.le_refl _) _)
 have hs1:w1.heap[w.heap.size]? =some (.cells #[.func (.func 170) #[.pointer (some ⟨tb,0,none⟩)] #[], .func (.func 171) #[.pointer (some ⟨tb,0,none⟩)] #[], .func (.func 172) #[.pointer (some ⟨tb,0,none⟩)] #[]] 298 (0,0)):=by rw[hw1];exact heap_alloc_new w _
 have M1:=Lib.hid (h.step B1.out)
 have H:=Lib.hid h
 have ASK:=Lib.hid (Sy M1.out w.heap.size r 0 false false false 0 hr hs1)
 have pE:∀(fn:Fn) (first cap:Array Value) (w:World),(Instr.makeFunc fn first cap).run Tryz.prog w= .ok (.func fn first cap) w:=fun _ _ _ _=>rfl
 clear hs1 h
 obtain⟨k,hk⟩:∃k,k=yt X.n L S r:=⟨_,rfl⟩
 have HK:=Lib.hid hk
 clear hk
 go_enter Tryz.func109,Tryz.ntmps109
 go_wp2_with fail
 rw[←hw1]
 clear hw1
 refine ASK.out.mono ?_
 rw[show aN [0,bY S r,pq X.n L r]=k from HK.out.symm]
 rintro e w2 ⟨rfl,hb⟩
 have T2:=Lib.hid (gB.stay H.out (B1.out.trans (hb.mono B1.out.size)))
 clear hb
 by_cases h0:k=0
 ·subst h0
  obtain⟨hsp,hba⟩:=KJ HK.out.symm
  obtain⟨i0,i1⟩:=Cg M1.out.low hsp
  obtain⟨y,rfl⟩:=Int.eq_ofNat_of_zero_le i0
  have HA:Hid (nT X.n X.P L R S (y:Int)=(0,l9 X.P R (y:Int),pY S y false)):=Lib.hid (by unfold nT;rw[←HK.out,if_pos rfl];rfl)
  have hy:y<1024:=by have:=M1.out.own.st.mem.top;omega
  have c3:=T2.out.st.c3
  clear hsp hba i0 i1 B1 M1
  go_wp2_with(first
   |(at_delete;refine Ad _ rfl _ _ rfl sb S rfl T2.out.st.iK y rfl hy ?_;intro w3 hs3 hg;have T3:=Lib.hid (T2.out.next (T2.out.st.turn hs3 hg (aa9 T2.out.st.low y)));clear hs3 hg c3)
   |(go_at_call 173;refine(Pz T3.out.st (y:Int) hr rfl).mono ?_;rintro e w4 ⟨rfl,ht⟩;have T4:=Lib.hid (T3.out.next ht);clear ht))
  go_ret
  exact⟨by rw[HA.out];rfl,by rw[HA.out];exact T4.out⟩
 ·have hne:(k !=0)=true:=by simpa using h0
  have HA:Hid (nT X.n X.P L R S r=(k,R,S)):=Lib.hid (by unfold nT;rw[←HK.out,if_neg h0])
  go_wp2
  go_ret
  exact⟨by rw[HA.out];rfl,by rw[HA.out];exact T2.out⟩
def oJ(P:List (Nat×Nat))(L:List Int)(R:Nat→Nat)(S:Nat→Bool):(Int×Int)×List Int×(Nat→Nat)×(Nat→Bool):=
 (dG P R 0,fO P R 0 L,gy P R 0,if(dG P R 0).2=0 then pY S (dG P R 0).1.toNat true else S)
set_option maxHeartbeats 2000000 in
theorem aac{W w:World}{tb sb:Nat}{X:bD}{L:List Int}{R:Nat→Nat}{S:Nat→Bool}(h:Mg W w tb sb X L R S):
  Calls Tryz.prog 155 #[.pointer (some ⟨tb,0,none⟩)] w fun e w'=>e= .returned (.tuple #[.int .i64 (oJ X.P L R S).1.1, .int .i64 (oJ X.P L R S).1.2])∧gB W w w' tb sb X (oJ X.P L R S).2.1 (oJ X.P L R S).2.2.1 (oJ X.P L R S).2.2.2:=by
 obtain⟨w1,hw1⟩:∃w1,w1=w.alloc (.cells #[.func (.func 170) #[.pointer (some ⟨tb,0,none⟩)] #[]] 298):=⟨_,rfl⟩
 have B1:Hid (Below w.heap.size w w1):=Lib.hid (by rw[hw1];exact(Below.refl _ _).alloc (Nat.le_refl _) _)
 have hs1:w1.heap[w.heap.size]? =some (.cells #[.func (.func 170) #[.pointer (some ⟨tb,0,none⟩)] #[]] 298 (0,0)):=by rw[hw1];exact heap_alloc_new w _
 have M1:=Lib.hid (h.step B1.out)
 have H:=Lib.hid h
 have ASK:=Lib.hid (WJ M1.out w.heap.size 0 0 false false false 0 hs1)
 have pE:∀(fn:Fn) (first cap:Array Value) (w:World),(Instr.makeFunc fn first cap).run Tryz.prog w= .ok (.func fn first cap) w:=fun _ _ _ _=>rfl
 clear hs1 h
 obtain⟨⟨a,er⟩,ha⟩:∃t,t=dG X.P R 0:=⟨_,rfl⟩
 have AA:=Lib.hid ha
 clear ha
 go_enter Tryz.func155,Tryz.ntmps155
 go_wp2_with fail
 rw[←hw1]
 clear hw1
 refine ASK.out.mono ?_
 rintro e w4 ⟨rfl,hb⟩
 have T4:=Lib.hid (gB.stay H.out (B1.out.trans (hb.mono B1.out.size)))
 have D4:Hid (Below w4.heap.size w4 w4.drew):=Lib.hid (Below.refl _ _).drew
 have HW:=Lib.hid (sU T4.out.st.own.st.fit T4.out.st.own.st.mem.len T4.out.st.wd)
 have c1:=T4.out.st.c1
 have c2:=T4.out.st.c2
 clear hb B1 M1
 go_wp2_with fail
 go_region_held3 (fun w'=>w'.cell? ⟨tb,1,none⟩=some (.pointer (some ⟨X.pb,0,none⟩))∧w'.cell? ⟨tb,2,none⟩=some (.int .i64 0)) (first|go_keep|exact⟨c5,d5⟩)
  (first|(go_at_call 185;refine(Ca (w:=w4.drew) AA.out.symm rfl rfl (T4.out.st.own.st.below D4.out) (T4.out.st.step D4.out).own.table).mono ?_;rintro e w5 ⟨rfl,hp⟩;have T5:=Lib.hid ((T4.out.far H.out (Below.refl _ _).drew).next ((T4.out.st.step D4.out).move hp HW.out));clear hp;have c5:=T5.out.st.c1;have d5:=T5.out.st.c2))
 clear c1 c2 c5 d5 D4
 have c3:=T5.out.st.c3
 by_cases her:er=0
 ·subst her
  rcases mg T4.out.st.own.st.fit L with⟨_,y,hy,hyn,_,_⟩|⟨hx,_⟩
  ·rw[←AA.out]at hy
   simp only at hy
   subst hy
   have hy:y<1024:=by have:=T4.out.st.own.st.mem.top;omega
   have HA:Hid (oJ X.P L R S=(((y:Int),0),fO X.P R 0 L,gy X.P R 0,pY S y true)):=Lib.hid (by unfold oJ;rw[←AA.out,if_pos rfl];rfl)
   go_wp2_with(at_mapUpdate;refine Cb _ rfl _ _ _ rfl sb S rfl T5.out.st.iK y rfl hy rfl ?_;intro w6 hs6 hg;have T6:=Lib.hid (T5.out.next (T5.out.st.turn hs6 hg (ad8 T5.out.st.low y hyn)));clear hs6 hg c3)
   go_ret2
   exact⟨by rw[HA.out];rfl,by rw[HA.out];exact T6.out⟩
  ·rw[←AA.out]at hx
   exact absurd rfl hx
 ·have hne2:(er !=0)=true:=by simpa using her
  rcases mg T4.out.st.own.st.fit L with⟨hx,_⟩|⟨_,hx,hy,hz⟩
  ·rw[←AA.out]at hx
   exact absurd hx her
  ·rw[←AA.out]at hx
   simp only at hx
   subst hx
   have HA:Hid (oJ X.P L R S=((0,er),fO X.P R 0 L,gy X.P R 0,S)):=Lib.hid (by unfold oJ;rw[←AA.out,if_neg her])
   go_wp2
   go_ret2
   exact⟨by rw[HA.out];rfl,by rw[HA.out];exact T5.out⟩
end Go.Proofs.YtammlljefhakmaaGreatDoor
namespace Go.Proofs.YtammlljefhakmaaGreatDoor
open Go.RowKit Go.Maps Go.Shelf
attribute [local go_sem] Oper.semAt_some
set_option maxRecDepth 100000
structure mK(w0 W:World)(b1 b2 tb:Nat)(t:Int)(J:List iX→World→Prop)(l:List iX)(wr:World):Prop where
 gG:Below w0.heap.size w0 wr
 size:W.heap.size≤wr.heap.size
 sw:wr.heap[b1]? =some (.cells #[.pointer (some ⟨tb,0,none⟩)] 132 (0,0))
 KH:wr.heap[b2]? =some (.cells #[.int .i64 t] 3 (0,0))
 told:J l wr
theorem mK.next{w0 W wr W3:World}{b1 b2 tb:Nat}{t:Int}{J:List iX→World→Prop}{l l':List iX}{K:Nat→Prop}(h:mK w0 W b1 b2 tb t J l wr)(hs:w0.heap.size≤W.heap.size)(hK:∀k,k<w0.heap.size→K k)(h1:K b1)(h2:K b2)(hk:bJ K W.heap.size wr W3)(hJ:J l' W3):mK w0 W b1 b2 tb t J l' W3:=
 ⟨h.gG.trans (hk.below (Nat.le_trans hs h.size) hK),Nat.le_trans h.size hk.size,hk.same b1 _ h.sw (Or.inl h1),hk.same b2 _ h.KH (Or.inl h2),hJ⟩
theorem mK.step{w0 W wr w2:World}{b1 b2 tb:Nat}{t:Int}{J:List iX→World→Prop}{l:List iX}(h:mK w0 W b1 b2 tb t J l wr)(hs:w0.heap.size≤W.heap.size)(hJ:jQ W.heap.size J)(hb:Below wr.heap.size wr w2):mK w0 W b1 b2 tb t J l w2:=
 ⟨h.gG.trans (hb.mono (Nat.le_trans hs h.size)),Nat.le_trans h.size hb.size,below_block hb h.sw,below_block hb h.KH,hJ _ _ _ h.told (eB.of_below hb)⟩
theorem mK.c1{w0 W wr:World}{b1 b2 tb:Nat}{t:Int}{J:List iX→World→Prop}{l:List iX}(h:mK w0 W b1 b2 tb t J l wr):wr.cell? ⟨b1,0,none⟩=some (.pointer (some ⟨tb,0,none⟩)):=by rw[cell_of_row _ _ _ _ _ _ h.sw];rfl
theorem mK.c2{w0 W wr:World}{b1 b2 tb:Nat}{t:Int}{J:List iX→World→Prop}{l:List iX}(h:mK w0 W b1 b2 tb t J l wr):wr.cell? ⟨b2,0,none⟩=some (.int .i64 t):=by rw[cell_of_row _ _ _ _ _ _ h.KH];rfl
set_option maxHeartbeats 4000000 in
theorem vK{Wl w0 w:World}{tb sb:Nat}{X:bD}{L:List Int}{R:Nat→Nat}{S:Nat→Bool}(h:Mg Wl w0 tb sb X L R S)(hb0:Below w0.heap.size w0 w)(b1 b2:Nat)(t:Int)(hx1:w.heap[b1]? =some (.cells #[.pointer (some ⟨tb,0,none⟩)] 132 (0,0)))(hx2:w.heap[b2]? =some (.cells #[.int .i64 t] 3 (0,0)))
  (K:Nat→Prop)(hK:∀k,k<w0.heap.size→K k)(hK1:K b1)(hK2:K b2):
  ac6 Tryz.prog 230 #[.pointer (some ⟨b1,0,none⟩), .pointer (some ⟨b2,0,none⟩)] KG (gZ X.n L t) K w:=by
 intro l J Jx W hW hJ hJx hY h0
 have hsz:w0.heap.size≤W.heap.size:=Nat.le_trans hb0.size hW.size
 have T0:Hid (mK w0 W b1 b2 tb t J (cB X.n L t 0) W):=Lib.hid ⟨hb0.trans (hW.mono hb0.size),Nat.le_refl _,below_block hW hx1,below_block hW hx2,h0⟩
 have M0:=Lib.hid h
 clear hb0 hW h hx1 hx2 h0
 refine(callsIn_wide (n:=5)).1 ?_
 refine callsIn_of_wp Tryz.func230 rfl trivial ?_ rfl
 simp only[Tryz.ntmps230,List.size_toArray,List.length_cons,List.length_nil,Nat.reduceAdd,Nat.reduceSub,Array.replicate_succ,Array.replicate_zero,List.push_toArray,List.append_toArray,List.nil_append,List.cons_append]
 gi_wp2
 gi_loopw [6] (fun i wr=>∃j:Nat,i= .int .i64 (j:Int)∧j≤32∧mK w0 W b1 b2 tb t J (cB X.n L t j) wr) (fun i _=>(32-(intOf i).toNat))
 case atStart=>exact⟨0,rfl,by omega,T0.out⟩
 case round=>
  obtain⟨j,rfl,hj,hR⟩:=hrel
  have TR:=Lib.hid hR
  clear hR
  by_cases hlt:j<32
  ·have c1:=TR.out.c1
   have c2:=TR.out.c2
   obtain⟨⟨p,x,c,g⟩,he⟩:∃e,e=lD X.n L t (j:Int):=⟨_,rfl⟩
   have HE:=Lib.hid he
   clear he
   gi_wp2_with fail
   refine⟨trivial,?_⟩
   refine(callsIn_wide.2 (Iz (M0.out.step TR.out.gG) t (j:Int) HE.out.symm)).mono ?_
   rintro e w1 ⟨rfl,hb⟩
   have T1:=Lib.hid (TR.out.step hsz hJ hb)
   have T2:=Lib.hid (T1.out.step hsz hJ ((Below.refl _ _).alloc (Nat.le_refl _) (.cells #[.bool p, .bool x, .bool c, .int .i64 g] 217)))
   clear hb c1 c2
   cases p with
   | true=>
    have hpre:cB X.n L t j++[((j:Int),(true,x,c,g))] <+: gZ X.n L t:=by rw[←lG HE.out.symm rfl];exact Ce _ _ _ (by omega)
    obtain⟨fn,tmps,assign,body,hy,hR⟩:=hY (cB X.n L t j) ((j:Int),(true,x,c,g)) (w1.alloc (.cells #[.bool true, .bool x, .bool c, .int .i64 g] 217)) 4 T2.out.told T2.out.size hpre
    dsimp only[KG,iB]at hy
    have PRE:=Lib.hid hpre
    have HR:=Lib.hid hR
    clear hpre hR
    gi_wp2
    refine HR.out.mono ?_
    rintro e W3 ⟨hk,⟨rfl,hJ3⟩|⟨rfl,hJ3⟩⟩
    ·have T3:=Lib.hid (T2.out.next hsz hK hK1 hK2 hk hJ3)
     clear hk hJ3
     gi_wp2
     go_roundw
     case rel=>exact⟨j+1,by go_num,by omega,by rw[lG HE.out.symm rfl];exact T3.out⟩
     case measure=>simp[intOf];omega
    ·gi_wp2
     refine bodyPost_ret (results_none rfl _ _ _) rfl ?_
     exact⟨⟨_,rfl⟩,Or.inr ⟨_,PRE.out,hJ3⟩⟩
   |false=>
    gi_wp2
    refine⟨fun _ h=>(by cases h),?_⟩
    gi_wp2
    go_roundw
    case rel=>exact⟨j+1,by go_num,by omega,by rw[uF (by rw[←HE.out])];exact T2.out⟩
    case measure=>simp[intOf];omega
  ·obtain rfl:j=32:=by omega
   gi_wp2
   go_end0
   exact⟨⟨_,rfl⟩,Or.inl TR.out.told⟩
structure KM(w V:World)(b:Nat)(n:Nat):Prop where
 gG:Below w.heap.size w V
 res:V.heap[b]? =some (.cells #[.int .i64 ((1+n:Nat):Int)] 3 (0,0))
theorem KM.stays{β:Type}{w:World}{b B:Nat}(hw:w.heap.size≤B)(hb:b<B)(f:β→Nat):jQ B (fun s V=>w.heap.size≤V.heap.size∧KM w V b (f s)):=
 fun _ _ _ h hk=>⟨Nat.le_trans h.1 hk.size,h.2.gG.trans (hk.below h.1 hw),hk.same b _ h.2.res (Or.inl hb)⟩
def KN(n:Nat)(L:List Int)(S:Nat→Bool)(r:Int):Nat:=if aN [0,bY S r]=0 then 1+(gZ n L r).length else 0
theorem WU{a:Int}:aN [0,a]=a:=by
 simp only[aN,if_true]
 by_cases h:a=0
 ·rw[if_pos h,h]
 ·rw[if_neg h]
set_option maxHeartbeats 4000000 in
theorem SC{W w:World}{tb sb:Nat}{X:bD}{L:List Int}{R:Nat→Nat}{S:Nat→Bool}(h:Mg W w tb sb X L R S)(r:Int)(hr:I64 r):
  Calls Tryz.prog 156 #[.pointer (some ⟨tb,0,none⟩), .int .i64 r] w fun e w'=>e= .returned (.int .i64 (KN X.n L S r:Int))∧Below w.heap.size w w':=by
 obtain⟨w1,hw1⟩:∃w1,w1=w.alloc (.cells #[.func (.func 170) #[.pointer (some ⟨tb,0,none⟩)] #[], .func (.func 171) #[.pointer (some ⟨tb,0,none⟩)] #[]] 298):=⟨_,rfl⟩
 have B1:Hid (Below w.heap.size w w1):=Lib.hid (by rw[hw1];exact(Below.refl _ _).alloc (Nat.le_refl _) _)
 have hs1:w1.heap[w.heap.size]? =some (.cells #[.func (.func 170) #[.pointer (some ⟨tb,0,none⟩)] #[], .func (.func 171) #[.pointer (some ⟨tb,0,none⟩)] #[]] 298 (0,0)):=by rw[hw1];exact heap_alloc_new w _
 have M1:=Lib.hid (h.step B1.out)
 have ASK:=Lib.hid (PS M1.out w.heap.size r 0 false false false 0 hr hs1)
 have pE:∀(fn:Fn) (first cap:Array Value) (w:World),(Instr.makeFunc fn first cap).run Tryz.prog w= .ok (.func fn first cap) w:=fun _ _ _ _=>rfl
 clear hs1 h
 obtain⟨k,hk⟩:∃k,k=aN [0,bY S r]:=⟨_,rfl⟩
 have HK:=Lib.hid hk
 clear hk
 refine(callsIn_wide (n:=12)).1 ?_
 refine callsIn_of_wp_marks Tryz.func156 rfl trivial ?_ rfl
 simp only[Tryz.ntmps156,List.size_toArray,List.length_cons,List.length_nil,Nat.reduceAdd,Nat.reduceSub,Array.replicate_succ,Array.replicate_zero,List.push_toArray,List.append_toArray,List.nil_append,List.cons_append]
 gi_wp2_with fail
 refine⟨trivial,?_⟩
 rw[←hw1]
 clear hw1
 refine(callsIn_wide.2 ASK.out).mono ?_
 rw[show aN [0,bY S r]=k from HK.out.symm]
 rintro e w2 ⟨rfl,hb⟩
 have B2:=Lib.hid (B1.out.trans (hb.mono B1.out.size))
 have M2:=Lib.hid (M1.out.step hb)
 clear hb
 by_cases h0:k=0
 ·subst h0
  obtain⟨E,hE⟩:∃E,E=gZ X.n L r:=⟨_,rfl⟩
  have hEl:E.length≤32:=by rw[hE];exact lX _ _ _ _
  have HA:Hid (KN X.n L S r=1+E.length):=Lib.hid (by unfold KN;rw[←HK.out,if_pos rfl,hE])
  obtain⟨wa,oD⟩:∃wa,wa=w2.alloc (.cells #[.int .i64 1] 3):=⟨_,rfl⟩
  obtain⟨W1,hW1⟩:∃W1,W1=(wa.alloc (.cells #[.pointer (some ⟨tb,0,none⟩)] 132)).alloc (.cells #[.int .i64 r] 3):=⟨_,rfl⟩
  have hza:wa.heap.size=w2.heap.size+1:=by rw[oD];simp
  have hz1:W1.heap.size=w2.heap.size+3:=by rw[hW1,oD];simp
  have hba:Below w2.heap.size w2 wa:=by rw[oD];exact(Below.refl _ _).alloc (Nat.le_refl _) _
  have hra:wa.heap[w2.heap.size]? =some (.cells #[.int .i64 1] 3 (0,0)):=by rw[oD];exact heap_alloc_new w2 _
  have hb1:Below wa.heap.size wa W1:=by rw[hW1];exact ak wa _ _
  have hx1:W1.heap[wa.heap.size]? =some (.cells #[.pointer (some ⟨tb,0,none⟩)] 132 (0,0)):=by rw[hW1];exact heap_alloc2_old _ _ _
  have hx2:W1.heap[wa.heap.size+1]? =some (.cells #[.int .i64 r] 3 (0,0)):=by rw[hW1];exact heap_alloc2_new _ _ _
  rw[hza]at hx1 hx2
  have hbw:Below w2.heap.size w2 W1:=hba.trans (hb1.mono hba.size)
  have B0:Hid (KM w W1 w2.heap.size 0):=Lib.hid ⟨B2.out.trans (hbw.mono B2.out.size),below_block hb1 hra⟩
  have hK:∀k,(k<w2.heap.size∨k=w2.heap.size+1∨k=w2.heap.size+1+1)→k<W1.heap.size:=by intro k h;omega
  have hseq:=vK M2.out hbw (w2.heap.size+1) (w2.heap.size+1+1) r hx1 hx2 (fun k=>k<w2.heap.size∨k=w2.heap.size+1∨k=w2.heap.size+1+1) (fun k h=>Or.inl h) (Or.inr (Or.inl rfl)) (Or.inr (Or.inr rfl))
  rw[←hE]at hseq
  rw[oD]at hW1
  have hzw:w.heap.size≤w2.heap.size:=B2.out.size
  clear oD hba hza hra hb1 hx1 hx2 hE hbw
  clear wa
  gi_wp2_with (refine⟨trivial,?_⟩;gi_at_call 207;refine(callsIn_wide.2 (qK _ _ _)).mono ?_;rintro e w' ⟨rfl,rfl⟩)
  rw[←hW1]
  clear hW1
  refine zu (gf:=230) (lb:=#[.pointer (some ⟨w2.heap.size+1,0,none⟩), .pointer (some ⟨w2.heap.size+1+1,0,none⟩)]) rfl (enters Tryz.func230 rfl rfl) hseq (Below.refl _ _) (by intro _;rfl) hK
   (fun pre V=>pre <+: E∧(w.heap.size≤V.heap.size∧KM w V w2.heap.size pre.length))
   (fun _ _ _=>False)
   ((vB _ _).and (KM.stays (w:=w) (b:=w2.heap.size) (by omega) (by omega) (fun(pre:List iX)=>pre.length)))
   (fun _ _ _ _ h _=>h)
   ⟨List.nil_prefix,B0.out.gG.size,B0.out⟩
   (fun x a' _=>a'={ tmps:=#[.pointer (some ⟨tb,0,none⟩), .int .i64 r,undef,undef, .int .i64 0, .int .i64 0, .pointer (some ⟨w2.heap.size,0,none⟩), .int .i64 r, .agg #[.int .i64 r, .int .i64 0, .bool false, .bool false, .bool false, .int .i64 0], .pointer (some ⟨tb,0,none⟩), .func (.func 170) #[.pointer (some ⟨tb,0,none⟩)] #[], .pointer (some ⟨tb,0,none⟩), .func (.func 171) #[.pointer (some ⟨tb,0,none⟩)] #[], .slice (some ⟨w.heap.size,0,none⟩) 2 2, .int .i64 0, .int .i64 0, .bool false, .pointer (some ⟨tb,0,none⟩), .int .i64 r, .func (.func 230) #[] #[.pointer (some ⟨w2.heap.size+1,0,none⟩), .pointer (some ⟨w2.heap.size+1+1,0,none⟩)], .int .i64 x.1,iB x.2,undef,undef,undef],defers:=[] })
   (fun x a' _ V V' row hs hg hr=>hs)
   ?assign ?body ?done ?stop
  case assign=>
   rintro l' pre x V D hI hzv hD
   dsimp only[KG]
   gi_wp2
   exact hD _ _ (bJ.refl _ _ _) hI (by simp)
  case body=>
   rintro l' pre x a' V hlo ⟨hp,hsz,hB⟩ hzv hpre rfl
   have f1:=frozen_of_row V w2.heap.size 0 _ _ hB.res
   have g1:V.cell? ⟨w2.heap.size,0,none⟩=some (.int .i64 ((1+pre.length:Nat):Int)):=by rw[cell_of_row _ _ _ _ _ _ hB.res];rfl
   have hpl:pre.length+1≤32:=by have:=hpre.length_le;rw[List.length_append]at this;simp at this;omega
   have HB:=Lib.hid hB
   have PP:=Lib.hid hpre
   clear hB hpre
   have hw:IntKind.i64.wrap (((1+pre.length:Nat):Int)+1)=((1+(pre.length+1):Nat):Int):=(IntWalk.i64_in _ (by omega)).trans (by omega)
   gi_wp2
   refine⟨bJ.grown (grownBy_setCell _ _ _ _) (by omega) (fun o ho=>by rw[HB.out.res]at ho;cases ho;rfl),PP.out,by simpa using hsz,HB.out.gG.setCell (p:=⟨w2.heap.size,0,none⟩) hzw _,?_⟩
   rw[List.length_append]
   exact heap_setCell_same _ _ _ _ _ _ HB.out.res
  case done=>
   rintro D V hD ⟨hp,hsz,hB⟩ qx
   have g1:V.cell? ⟨w2.heap.size,0,none⟩=some (.int .i64 ((1+E.length:Nat):Int)):=by rw[cell_of_row _ _ _ _ _ _ hB.res];rfl
   gi_wp2
   refine⟨by simp, .inl ⟨_,_,rfl,run_takeDeferred qx,?_⟩⟩
   refine⟨.int .i64 ((1+E.length:Nat):Int),?_,by rw[HA.out],hB.gG.trans (fB _ V D (.deferred none) (by omega))⟩
   simp[results,Tryz.results156,go_sem]
  case stop=>
   rintro D c pre V hD hpre hF
   exact hF.elim
 ·have hne:(k !=0)=true:=by simpa using h0
  have HA:Hid (KN X.n L S r=0):=Lib.hid (by unfold KN;rw[←HK.out,if_neg h0])
  gi_wp2
  refine⟨.int .i64 0,?_,by rw[HA.out];rfl,B2.out⟩
  simp[results,Tryz.results156,go_sem]
end Go.Proofs.YtammlljefhakmaaGreatDoor
namespace Go.Proofs.YtammlljefhakmaaGreatDoor
open Go.RowKit Go.Maps Go.Shelf
attribute [local go_sem] Oper.semAt_some
set_option maxRecDepth 100000
abbrev sV:=Int×fQ
def kW(l:List sV):List Value:=l.flatMap fun y=>[.int .i64 y.1, .bool y.2.1, .bool y.2.2.1, .bool y.2.2.2.1, .int .i64 y.2.2.2.2]
theorem IE(l m:List sV):kW (l++m)=kW l++kW m:=by simp[kW]
theorem SF(y:sV):kW [y]=[.int .i64 y.1, .bool y.2.1, .bool y.2.2.1, .bool y.2.2.2.1, .int .i64 y.2.2.2.2]:=by simp[kW]
def p9(i:Int)(l:List iX):List sV:=l.map fun y=>(32*i+y.1,y.2)
def Aw(n:Nat)(L:List Int)(x:iX):List sV:=p9 x.1 (gZ n L x.2.2.2.2)
def je(n:Nat)(L:List Int)(l:List iX):List sV:=l.flatMap (Aw n L)
theorem zM(n:Nat)(L:List Int)(l:List iX)(x:iX):je n L (l++[x])=je n L l++Aw n L x:=by simp[je]
theorem Ch(i:Int)(l:List iX)(y:iX):p9 i (l++[y])=p9 i l++[(32*i+y.1,y.2)]:=by simp[p9]
theorem Em(n:Nat)(L:List Int)(l:List iX):(je n L l).length≤32*l.length:=by
 induction l with
 |nil=>simp[je]
 |cons x l ih=>
  have h1:(Aw n L x).length≤32:=by unfold Aw p9;rw[List.length_map];exact lX _ _ _ _
  simp only[je,List.flatMap_cons,List.length_append,List.length_cons]at ih ⊢
  omega
def ad9(n:Nat)(L:List Int)(r:Int):List sV:=je n L (gZ n L r)
def allA(n:Nat)(L:List Int)(S:Nat→Bool)(r:Int):List sV:=if aN [0,bY S r]=0 then ad9 n L r else[]
theorem aad:(Tryz.prog.info? 243).map (fun i=>(i.zero,i.size,i.bytes))=some (some (.agg #[.int .i64 0, .bool false, .bool false, .bool false, .int .i64 0]),5,24):=by kernel_rfl
theorem FL{w w':World}{B base k n:Nat}{e:TypeId}{v:Value}{xs:List Value}(h:w.ownsRow base e k v n xs)(hk:eB B w w'):w'.ownsRow base e k v n xs:=by
 refine⟨h.1,?_⟩
 rcases h.2 with hn|⟨g,cap,cur,rfl,hb,hgg,rest⟩
 ·exact .inl hn
 ·exact .inr ⟨g,cap,cur,rfl,hb,hk.same _ _ hgg (Or.inr rfl),rest⟩
structure nU(w V:World)(tb b base:Nat)(ms:List sV):Prop where
 gG:Below w.heap.size w V
 size:base≤V.heap.size
 ptr:V.heap[w.heap.size]? =some (.cells #[.pointer (some ⟨tb,0,none⟩)] 132 (0,0))
 row:∃v,V.heap[b]? =some (.cells #[v] 240 (0,0))∧V.ownsRow base 243 5 v ms.length (kW ms)
theorem nU.WV{w V V':World}{tb b base B:Nat}{ms:List sV}(h:nU w V tb b base ms)(hk:eB B V V')(hw:w.heap.size≤B):nU w V' tb b base ms:=by
 obtain⟨v,h1,h2⟩:=h.row
 exact⟨h.gG.trans (hk.below h.gG.size hw),Nat.le_trans h.size hk.size,hk.same _ _ h.ptr (Or.inr rfl),v,hk.same _ _ h1 (Or.inr rfl),FL h2 hk⟩
theorem nU.stays{β:Type}{w:World}{tb b base B:Nat}(hw:w.heap.size≤B)(f:β→List sV):jQ B (fun s V=>nU w V tb b base (f s)):=fun _ _ _ h hk=>h.WV hk hw
theorem nU.step{w V V':World}{tb b base:Nat}{ms:List sV}(h:nU w V tb b base ms)(hb:Below V.heap.size V V'):nU w V' tb b base ms:=
 h.WV (B:=V.heap.size) (eB.of_below hb) h.gG.size
theorem NU{β:Type}{K:Nat→Prop}{B B':Nat}{V0:World}(hB:V0.heap.size≤B'):jQ B' (fun(_:β) V=>bJ K B V0 V):=
 fun _ _ _ h hk=>⟨hk.os.trans h.os,hk.tape.trans h.tape,hk.output.trans h.output,Nat.le_trans h.size hk.size,fun k o ho hK=>hk.same k o (h.same k o ho hK) (Or.inl (Nat.lt_of_lt_of_le (lt_of_block ho) hB))⟩
theorem vL{β:Type}{B k:Nat}{cs:Array Value}{t:TypeId}{z:Nat×Nat}:jQ B (fun(_:β) V=>V.heap[k]? =some (.cells cs t z)):=fun _ _ _ hs hb=>hb.same _ _ hs (Or.inr rfl)
theorem bJ.row{K:Nat→Prop}{B base k n:Nat}{W W':World}{e:TypeId}{v:Value}{xs:List Value}(ho:W.ownsRow base e k v n xs)(hg:W.grownBy W' v.ownBlock)(hK:∀g,v.ownBlock=some g→¬K g):bJ K B W W':=by
 refine⟨hg.os,hg.tape,hg.output,hg.size,fun i o hi hk=>?_⟩
 refine(hg.block i (lt_of_block hi) fun e2=>?_).trans hi
 obtain⟨cs,hcs⟩:=bF ho e2.symm
 rcases hk with h|⟨_,h⟩
 ·exact hK _ e2.symm h
 ·rw[hcs]at hi;cases hi;cases h
theorem yu{w:World}{base k n:Nat}{e:TypeId}{v:Value}{xs:List Value}(h:w.ownsRow base e k v n xs){g:Nat}(hg:v.ownBlock=some g):base≤g:=by
 rcases h.2 with⟨rfl,_⟩|⟨g',cap,cur,rfl,hb,_⟩
 ·simp[Value.ownBlock]at hg
 ·simp[Value.ownBlock]at hg
  exact hg▸hb
theorem sW{w:World}{base k n:Nat}{e t:TypeId}{v:Value}{xs:List Value}{cs:Array Value}(h:w.ownsRow base e k v n xs){g b:Nat}(hg:v.ownBlock=some g)(hb:w.heap[b]? =some (.cells cs t (0,0)))(hne:e≠t):g≠b:=by
 obtain⟨cs',hcs⟩:=bF h hg
 rintro rfl
 rw[hcs]at hb
 cases hb
 exact hne rfl
end Go.Proofs.YtammlljefhakmaaGreatDoor
namespace Go.Proofs.YtammlljefhakmaaGreatDoor
open Go.RowKit Go.Maps Go.Shelf
attribute [local go_sem] Oper.semAt_some
set_option maxRecDepth 100000
def wR(w:World)(ms:List sV)(e:Ending)(w':World):Prop:=∃v,e= .returned v∧w'.ownsRow w.heap.size 243 5 v ms.length (kW ms)∧Below w.heap.size w w'
set_option maxHeartbeats 8000000 in
theorem aae{W w:World}{tb sb:Nat}{X:bD}{L:List Int}{R:Nat→Nat}{S:Nat→Bool}(h:Mg W w tb sb X L R S)(r:Int)(hr:I64 r):
  Calls Tryz.prog 157 #[.pointer (some ⟨tb,0,none⟩), .int .i64 r] w (wR w (allA X.n L S r)):=by
 obtain⟨ii,hi,hi0,hi1,hi2⟩:=info_parts aad
 obtain⟨w1,hw1⟩:∃w1,w1=(w.alloc (.cells #[.pointer (some ⟨tb,0,none⟩)] 132)).alloc (.cells #[.func (.func 170) #[.pointer (some ⟨tb,0,none⟩)] #[], .func (.func 171) #[.pointer (some ⟨tb,0,none⟩)] #[]] 298):=⟨_,rfl⟩
 have B1:Hid (Below w.heap.size w w1):=Lib.hid (by rw[hw1];exact ak _ _ _)
 have hp1:w1.heap[w.heap.size]? =some (.cells #[.pointer (some ⟨tb,0,none⟩)] 132 (0,0)):=by rw[hw1];exact heap_alloc2_old w _ _
 have hs1:w1.heap[w.heap.size+1]? =some (.cells #[.func (.func 170) #[.pointer (some ⟨tb,0,none⟩)] #[], .func (.func 171) #[.pointer (some ⟨tb,0,none⟩)] #[]] 298 (0,0)):=by rw[hw1];exact heap_alloc2_new w _ _
 have M1:=Lib.hid (h.step B1.out)
 have ASK:=Lib.hid (PS M1.out (w.heap.size+1) r 0 false false false 0 hr hs1)
 have pE:∀(fn:Fn) (first cap:Array Value) (w:World),(Instr.makeFunc fn first cap).run Tryz.prog w= .ok (.func fn first cap) w:=fun _ _ _ _=>rfl
 have H:=Lib.hid h
 clear hs1 h
 obtain⟨k,hk⟩:∃k,k=aN [0,bY S r]:=⟨_,rfl⟩
 have HK:=Lib.hid hk
 clear hk
 refine(callsIn_wide (n:=12)).1 ?_
 refine callsIn_of_wp_marks Tryz.func157 rfl trivial ?_ rfl
 simp only[Tryz.ntmps157,List.size_toArray,List.length_cons,List.length_nil,Nat.reduceAdd,Nat.reduceSub,Array.replicate_succ,Array.replicate_zero,List.push_toArray,List.append_toArray,List.nil_append,List.cons_append]
 gi_wp2_with fail
 refine⟨trivial,?_⟩
 rw[←hw1]
 clear hw1
 refine(callsIn_wide.2 ASK.out).mono ?_
 rw[show aN [0,bY S r]=k from HK.out.symm]
 rintro e w2 ⟨rfl,hb⟩
 have B2:=Lib.hid (B1.out.trans (hb.mono B1.out.size))
 have M2:=Lib.hid (M1.out.step hb)
 have hp2:=below_block hb hp1
 have hlp:=lt_of_block hp2
 clear hb hp1
 by_cases h0:k=0
 ·subst h0
  obtain⟨E,hE⟩:∃E,E=gZ X.n L r:=⟨_,rfl⟩
  have HE:=Lib.hid hE
  have hEl:E.length≤32:=by rw[hE];exact lX _ _ _ _
  have HA:Hid (allA X.n L S r=je X.n L E):=Lib.hid (by unfold allA ad9;rw[←HK.out,if_pos rfl,hE])
  obtain⟨wa,oD⟩:∃wa,wa=w2.alloc (.cells #[.slice none 0 0] 240):=⟨_,rfl⟩
  obtain⟨W1,hW1⟩:∃W1,W1=(wa.alloc (.cells #[.pointer (some ⟨tb,0,none⟩)] 132)).alloc (.cells #[.int .i64 r] 3):=⟨_,rfl⟩
  have hza:wa.heap.size=w2.heap.size+1:=by rw[oD];simp
  have hz1:W1.heap.size=w2.heap.size+3:=by rw[hW1,oD];simp
  have hba:Below w2.heap.size w2 wa:=by rw[oD];exact(Below.refl _ _).alloc (Nat.le_refl _) _
  have hra:wa.heap[w2.heap.size]? =some (.cells #[.slice none 0 0] 240 (0,0)):=by rw[oD];exact heap_alloc_new w2 _
  have hb1:Below wa.heap.size wa W1:=by rw[hW1];exact ak wa _ _
  have hx1:W1.heap[wa.heap.size]? =some (.cells #[.pointer (some ⟨tb,0,none⟩)] 132 (0,0)):=by rw[hW1];exact heap_alloc2_old _ _ _
  have hx2:W1.heap[wa.heap.size+1]? =some (.cells #[.int .i64 r] 3 (0,0)):=by rw[hW1];exact heap_alloc2_new _ _ _
  rw[hza]at hx1 hx2
  have hbw:Below w2.heap.size w2 W1:=hba.trans (hb1.mono hba.size)
  have B0:Hid (nU w W1 tb w2.heap.size W1.heap.size []):=Lib.hid ⟨B2.out.trans (hbw.mono B2.out.size),Nat.le_refl _,below_block hbw hp2,_,below_block hb1 hra,World.ownsRow_nil _ _ _ _⟩
  have hK:∀k,(k<w.heap.size∨k=w2.heap.size+1∨k=w2.heap.size+1+1)→k<W1.heap.size:=by intro k h;omega
  have hzw:w.heap.size≤w2.heap.size:=B2.out.size
  have pc:wa.cell? ⟨w.heap.size,0,none⟩=some (.pointer (some ⟨tb,0,none⟩)):=by rw[cell_of_row _ _ _ _ _ _ (below_block hba hp2)];rfl
  have pc0:w2.cell? ⟨w.heap.size,0,none⟩=some (.pointer (some ⟨tb,0,none⟩)):=by rw[cell_of_row _ _ _ _ _ _ hp2];rfl
  rw[oD]at hW1 pc
  clear oD hba hza hra hb1 hE
  clear wa
  gi_wp2_with (refine⟨trivial,?_⟩;gi_at_call 207;refine(callsIn_wide.2 (qK _ _ _)).mono ?_;rintro e w' ⟨rfl,rfl⟩)
  rw[←hW1]
  clear hW1 pc pc0
  have hseq:=vK H.out B0.out.gG (w2.heap.size+1) (w2.heap.size+1+1) r hx1 hx2 (fun k=>k<w.heap.size∨k=w2.heap.size+1∨k=w2.heap.size+1+1) (fun k h=>Or.inl h) (Or.inr (Or.inl rfl)) (Or.inr (Or.inr rfl))
  rw[←HE.out]at hseq
  refine zu (gf:=230) (lb:=#[.pointer (some ⟨w2.heap.size+1,0,none⟩), .pointer (some ⟨w2.heap.size+1+1,0,none⟩)]) rfl (enters Tryz.func230 rfl rfl) hseq (Below.refl _ _) (by intro _;rfl) hK
   (fun pre V=>pre <+: E∧nU w V tb w2.heap.size W1.heap.size (je X.n L pre))
   (fun _ _ _=>False)
   ((vB _ _).and (nU.stays (by omega) (fun(pre:List iX)=>je X.n L pre)))
   (fun _ _ _ _ h _=>h)
   ⟨List.nil_prefix,B0.out⟩
   (fun x a' V=>∃B7 B8,W1.heap.size≤B7∧W1.heap.size≤B8∧V.heap[B7]? =some (.cells #[.int .i64 x.1] 3 (0,0))∧V.heap[B8]? =some (eU x.2)∧a'={ tmps:=#[.pointer (some ⟨tb,0,none⟩), .int .i64 r, .pointer (some ⟨w.heap.size,0,none⟩),undef, .slice none 0 0, .int .i64 0, .pointer (some ⟨w2.heap.size,0,none⟩), .pointer (some ⟨B7,0,none⟩), .pointer (some ⟨B8,0,none⟩),undef,undef, .int .i64 r, .agg #[.int .i64 r, .int .i64 0, .bool false, .bool false, .bool false, .int .i64 0], .pointer (some ⟨tb,0,none⟩), .func (.func 170) #[.pointer (some ⟨tb,0,none⟩)] #[], .pointer (some ⟨tb,0,none⟩), .func (.func 171) #[.pointer (some ⟨tb,0,none⟩)] #[], .slice (some ⟨w.heap.size+1,0,none⟩) 2 2, .int .i64 0, .int .i64 0, .bool false, .pointer (some ⟨tb,0,none⟩), .int .i64 r, .func (.func 230) #[] #[.pointer (some ⟨w2.heap.size+1,0,none⟩), .pointer (some ⟨w2.heap.size+1+1,0,none⟩)], .int .i64 x.1,iB x.2,undef,undef,undef,undef,undef,undef,undef,undef,undef,undef,undef,undef,undef,undef,undef,undef],defers:=[] })
   (fun x a' _ V V' row hs hg hr=>by
    obtain⟨B7,B8,z1,z2,h1,h2,h3⟩:=hs
    have h2':V.heap[B8]? =some (.cells #[.bool x.2.1, .bool x.2.2.1, .bool x.2.2.2.1, .int .i64 x.2.2.2.2] 217 (0,0)):=h2
    exact⟨B7,B8,z1,z2,(hg.block B7 (lt_of_block h1) (fun e=>by obtain⟨_,o,ho,hc⟩:=hr B7 e.symm;rw[h1]at ho;cases ho;cases hc)).trans h1,
     (hg.block B8 (lt_of_block h2) (fun e=>by obtain⟨_,o,ho,hc⟩:=hr B8 e.symm;rw[h2']at ho;cases ho;cases hc)).trans h2,h3⟩)
   ?assign ?body ?done ?stop
  case assign=>
   rintro l' pre ⟨xi,⟨xp,xx,xc,xg⟩⟩ V D ⟨hp,hI⟩ hzv hD
   dsimp only[KG,iB]
   gi_wp2
   exact hD _ _ (bJ.of_below (ak _ _ _)) ⟨hp,hI.step (ak _ _ _)⟩ ⟨V.heap.size,V.heap.size+1,hzv,by omega,heap_alloc2_old V _ _,heap_alloc2_new V _ _,by simp[iB]⟩
  case body=>
   rintro l' pre ⟨xi,⟨xp,xx,xc,xg⟩⟩ a' V ⟨hl1,r0,hl2⟩ ⟨hp,hI⟩ hzv hpre ⟨B7,B8,z1,z2,h7,h8,rfl⟩
   have af7:=Lib.hid hpre
   obtain⟨jx,hjx,hxx,_⟩:=qJ X.n L r 32 (xi,(xp,xx,xc,xg)) (by have:=HE.out;unfold gZ at this;rw[←this];exact hpre.subset (by simp))
   obtain rfl:xi=(jx:Int):=(Prod.mk.inj hxx).1
   have hI':=Lib.hid hI
   have p0:V.cell? ⟨w.heap.size,0,none⟩=some (.pointer (some ⟨tb,0,none⟩)):=by rw[cell_of_row _ _ _ _ _ _ hI.ptr];rfl
   have c83:=(aU h8).2.2.2
   simp only at h7 h8 c83
   obtain⟨V1,hV1⟩:∃V1,V1=(V.alloc (.cells #[.pointer (some ⟨tb,0,none⟩)] 132)).alloc (.cells #[.int .i64 xg] 3):=⟨_,rfl⟩
   have hbV:Below V.heap.size V V1:=by rw[hV1];exact ak _ _ _
   have hzV:V1.heap.size=V.heap.size+1+1:=by rw[hV1];simp
   have hy1:V1.heap[V.heap.size]? =some (.cells #[.pointer (some ⟨tb,0,none⟩)] 132 (0,0)):=by rw[hV1];exact heap_alloc2_old _ _ _
   have hy2:V1.heap[V.heap.size+1]? =some (.cells #[.int .i64 xg] 3 (0,0)):=by rw[hV1];exact heap_alloc2_new _ _ _
   have hI1:=Lib.hid (hI.step hbV)
   have hK2:∀k,(k<w.heap.size∨k=V.heap.size∨k=V.heap.size+1)→k<V1.heap.size:=by intro k h;omega
   have abB:=vK H.out hI1.out.gG V.heap.size (V.heap.size+1) xg hy1 hy2 (fun k=>k<w.heap.size∨k=V.heap.size∨k=V.heap.size+1) (fun k h=>Or.inl h) (Or.inr (Or.inl rfl)) (Or.inr (Or.inr rfl))
   obtain⟨E2,hE2⟩:∃E2,E2=gZ X.n L xg:=⟨_,rfl⟩
   have HE2:=Lib.hid hE2
   have ajF:E2.length≤32:=by rw[hE2];exact lX _ _ _ _
   rw[←hE2]at abB
   have KV:=Lib.hid (bJ.of_below (K:=fun k=>k<w.heap.size∨k=w2.heap.size+1∨k=w2.heap.size+1+1) (B:=W1.heap.size) hbV)
   have hlo:=below_block hbV hl2
   have h71:=below_block hbV h7
   clear hE2 hI hpre hxx hl2
   gi_wp2_with (refine⟨trivial,?_⟩;gi_at_call 207;refine(callsIn_wide.2 (qK _ _ _)).mono ?_;rintro e w' ⟨rfl,rfl⟩)
   rw[←hV1]
   clear hV1
   refine Rq (gf:=230) (lb:=#[.pointer (some ⟨V.heap.size,0,none⟩), .pointer (some ⟨V.heap.size+1,0,none⟩)]) hlo rfl (enters Tryz.func230 rfl rfl) abB (Below.refl _ _) (by intro _;rfl) hK2
    (fun IG V2=>IG <+: E2∧((nU w V2 tb w2.heap.size W1.heap.size (je X.n L pre++p9 (jx:Int) IG)∧bJ (fun k=>k<w.heap.size∨k=w2.heap.size+1∨k=w2.heap.size+1+1) W1.heap.size V V2)∧(V2.heap[B7]? =some (.cells #[.int .i64 (jx:Int)] 3 (0,0))∧(V2.heap[V.heap.size]? =some (.cells #[.pointer (some ⟨tb,0,none⟩)] 132 (0,0))∧V2.heap[V.heap.size+1]? =some (.cells #[.int .i64 xg] 3 (0,0))))))
    (fun _ _ _=>False)
    ((vB _ _).and (((nU.stays (by omega) (fun(IG:List iX)=>je X.n L pre++p9 (jx:Int) IG)).and (NU (by omega))).and (vL.and (vL.and vL))))
    (fun _ _ _ _ h _=>h)
    ⟨List.nil_prefix,⟨by simpa[p9]using hI1.out,KV.out⟩,h71,hy1,hy2⟩
    (fun y a' V2=>∃B10,V1.heap.size≤B10∧V2.heap[B10]? =some (eU y.2)∧a'={ tmps:=#[.pointer (some ⟨tb,0,none⟩), .int .i64 r, .pointer (some ⟨w.heap.size,0,none⟩),undef, .slice none 0 0, .int .i64 0, .pointer (some ⟨w2.heap.size,0,none⟩), .pointer (some ⟨B7,0,none⟩), .pointer (some ⟨B8,0,none⟩), .int .i64 y.1, .pointer (some ⟨B10,0,none⟩), .int .i64 r, .agg #[.int .i64 r, .int .i64 0, .bool false, .bool false, .bool false, .int .i64 0], .pointer (some ⟨tb,0,none⟩), .func (.func 170) #[.pointer (some ⟨tb,0,none⟩)] #[], .pointer (some ⟨tb,0,none⟩), .func (.func 171) #[.pointer (some ⟨tb,0,none⟩)] #[], .slice (some ⟨w.heap.size+1,0,none⟩) 2 2, .int .i64 0, .int .i64 0, .bool false, .pointer (some ⟨tb,0,none⟩), .int .i64 r, .func (.func 230) #[] #[.pointer (some ⟨w2.heap.size+1,0,none⟩), .pointer (some ⟨w2.heap.size+1+1,0,none⟩)], .int .i64 (jx:Int),iB (xp,xx,xc,xg), .pointer (some ⟨tb,0,none⟩), .pointer (some ⟨B8,3,none⟩), .int .i64 xg, .func (.func 230) #[] #[.pointer (some ⟨V.heap.size,0,none⟩), .pointer (some ⟨V.heap.size+1,0,none⟩)], .int .i64 y.1,iB y.2,undef,undef,undef,undef,undef,undef,undef,undef,undef,undef],defers:=[] })
    (fun y a' _ V V' row hs hg hr=>by
     obtain⟨B10,z1,h2,h3⟩:=hs
     have h2':V.heap[B10]? =some (.cells #[.bool y.2.1, .bool y.2.2.1, .bool y.2.2.2.1, .int .i64 y.2.2.2.2] 217 (0,0)):=h2
     exact⟨B10,z1,(hg.block B10 (lt_of_block h2) (fun e=>by obtain⟨_,o,ho,hc⟩:=hr B10 e.symm;rw[h2']at ho;cases ho;cases hc)).trans h2,h3⟩)
    ?assign2 ?af8 ?af9 ?afa
   case assign2=>
    rintro l2 IG ⟨yi,⟨yp,yx,yc,yg⟩⟩ V2 D ⟨aaf,⟨hI2,hK3⟩,h72,hq1,hq2⟩ ada hD
    dsimp only[KG,iB]
    gi_wp2
    have qy:Below V2.heap.size V2 (V2.alloc (.cells #[.bool yp, .bool yx, .bool yc, .int .i64 yg] 217)):=(Below.refl _ _).alloc (Nat.le_refl _) _
    exact hD _ _ (bJ.of_below qy) ⟨aaf,⟨hI2.step qy,hK3.trans (bJ.of_below qy)⟩,below_block qy h72,below_block qy hq1,below_block qy hq2⟩ ⟨V2.heap.size,ada,heap_alloc_new V2 _,by simp[iB]⟩
   case af8=>
    rintro l2 IG ⟨yi,⟨yp,yx,yc,yg⟩⟩ a' V2-⟨aaf,⟨hI2,hK3⟩,h72,hq1,hq2⟩ ada KO ⟨B10,SG,h10,rfl⟩
    obtain⟨v,hv1,hv2⟩:=hI2.row
    obtain⟨ms,hms⟩:∃ms,ms=je X.n L pre++p9 (jx:Int) IG:=⟨_,rfl⟩
    have HMS:=Lib.hid hms
    have hlen:ms.length≤1024:=by
     have a1:=Em X.n L pre
     have a2:=af7.out.length_le
     have a3:=KO.length_le
     rw[List.length_append]at a2 a3
     rw[hms,List.length_append,p9,List.length_map]
     simp at a2 a3
     omega
    rw[←hms]at hv2
    obtain⟨jy,hjy,hyy,_⟩:=qJ X.n L xg 32 (yi,(yp,yx,yc,yg)) (by have:=HE2.out;unfold gZ at this;rw[←this];exact KO.subset (by simp))
    obtain rfl:yi=(jy:Int):=(Prod.mk.inj hyy).1
    have gl:V2.cell? ⟨w2.heap.size,0,none⟩=some v:=by rw[cell_of_row _ _ _ _ _ _ hv1];rfl
    have c7:V2.cell? ⟨B7,0,none⟩=some (.int .i64 (jx:Int)):=by rw[cell_of_row _ _ _ _ _ _ h72];rfl
    obtain⟨k0,k1,k2,k3⟩:=aU h10
    simp only at k0 k1 k2 k3
    have A3:Hid (Below V2.heap.size V2 (V2.alloc (.cells #[.int .i64 (32*(jx:Int)+(jy:Int)), .bool yp, .bool yx, .bool yc, .int .i64 yg] 243))):=Lib.hid ((Below.refl _ _).alloc (Nat.le_refl _) _)
    have Bh:Hid (∀(j:Nat) (u:Value),([.int .i64 (32*(jx:Int)+(jy:Int)), .bool yp, .bool yx, .bool yc, .int .i64 yg]:List Value)[j]? =some u→(V2.alloc (.cells #[.int .i64 (32*(jx:Int)+(jy:Int)), .bool yp, .bool yx, .bool yc, .int .i64 yg] 243)).cell? ((⟨V2.heap.size,0,none⟩:Addr).add j)=some u):=Lib.hid (World.news_of_block (cs:=#[.int .i64 (32*(jx:Int)+(jy:Int)), .bool yp, .bool yx, .bool yc, .int .i64 yg]) (t:=243) (fr:=(0,0)) (heap_alloc_new V2 _))
    have O3:=Lib.hid (gN hv2 A3.out)
    have I3:=Lib.hid (hI2.step A3.out)
    have L3:=Lib.hid (below_block A3.out hv1)
    have Q1:=Lib.hid (below_block A3.out hq1)
    have Q2:=Lib.hid (below_block A3.out hq2)
    have H73:=Lib.hid (below_block A3.out h72)
    have aiA:=lt_of_block hv1
    have szb:Hid (W1.heap.size≤(V2.alloc (.cells #[.int .i64 (32*(jx:Int)+(jy:Int)), .bool yp, .bool yx, .bool yc, .int .i64 yg] 243)).heap.size):=Lib.hid I3.out.size
    have K3:=Lib.hid hK3
    have ahl:=Lib.hid KO
    clear hK3 KO hv2 hv1 hq1 hq2 h72 h10 hI2 hms hyy aaf
    gi_wp2_with (gi_at_builtin;refine wpListIn_append_own _ rfl (.tmp 32) (.tmp 39) 240 rfl W1.heap.size 243 ii (.agg #[.int .i64 0, .bool false, .bool false, .bool false, .int .i64 0]) 5 24 Tryz.underlying240 hi hi0 hi1 hi2 rfl (by decide) v ms.length (kW ms) rfl O3.out ⟨V2.heap.size,0,none⟩ 1 1 [.int .i64 (32*(jx:Int)+(jy:Int)), .bool yp, .bool yx, .bool yc, .int .i64 yg] rfl rfl Bh.out (by simp[Value.oneCell']) (by unfold maxLen;omega) (by omega) szb.out ?_;intro v4 V4 ho hg _;obtain⟨a4,c4,rfl⟩:=jE ho;have hb4:=(hg.block w2.heap.size (lt_of_block L3.out) (fun e=>by have:=yu O3.out e.symm;omega)).trans L3.out;have f4:=frozen_of_row V4 w2.heap.size 0 _ _ hb4;have g4:V4.cell? ⟨w2.heap.size,0,none⟩=some v:=by rw[cell_of_row _ _ _ _ _ _ hb4];rfl)
    have hA4:nU w (V4.setCell ⟨w2.heap.size,0,none⟩ (.slice a4 (ms.length+1) c4)) tb w2.heap.size W1.heap.size (je X.n L pre++p9 (jx:Int) (IG++[((jy:Int),(yp,yx,yc,yg))])):=by
     have hpt:V4.heap[w.heap.size]? =some (.cells #[.pointer (some ⟨tb,0,none⟩)] 132 (0,0)):=(hg.block w.heap.size (lt_of_block I3.out.ptr) (fun e=>by have:=yu O3.out e.symm;omega)).trans I3.out.ptr
     have hbl:Below w.heap.size w V4:=I3.out.gG.grown hg I3.out.gG.size (fun k hk=>by have:=yu O3.out hk;omega)
     refine⟨hbl.setCell (p:=⟨w2.heap.size,0,none⟩) hzw _,by simpa using Nat.le_trans I3.out.size hg.size,(Below.heap_setCell _ _ _ _ (by simp only;omega)).trans hpt, .slice a4 (ms.length+1) c4,heap_setCell_same _ _ _ _ _ _ hb4,?_⟩
     rw[Ch,←List.append_assoc,←HMS.out,IE,List.length_append,SF]
     exact iU ho (Only.grown (B:=fun k=>k=w2.heap.size) (grownBy_setCell _ _ _ _) rfl) (fun g hg' e=>by have:=yu ho hg';omega)
    have hk1:∀K:Nat→Prop,(∀g,v.ownBlock=some g→¬K g)→¬K w2.heap.size→∀B,bJ K B V2 (V4.setCell ⟨w2.heap.size,0,none⟩ (.slice a4 (ms.length+1) c4)):=fun K h1 h2 B=>
     ((bJ.of_below A3.out).trans (bJ.row O3.out hg h1)).trans (bJ.grown (grownBy_setCell _ _ _ _) h2 (fun o ho'=>by rw[hb4]at ho';cases ho';rfl))
    have hset:∀k o,V4.heap[k]? =some o→k≠w2.heap.size→(V4.setCell ⟨w2.heap.size,0,none⟩ (.slice a4 (ms.length+1) c4)).heap[k]? =some o:=fun k o ho' hk=>(Below.heap_setCell _ _ _ _ (by simpa using hk)).trans ho'
    have hB7:B7≠w2.heap.size:=by omega
    refine⟨hk1 _ (fun g hg'=>?_) (by omega) _,ahl.out,⟨hA4,K3.out.trans (hk1 _ (fun g hg'=>?_) (by omega) _)⟩,hset _ _ ((hg.block B7 (lt_of_block H73.out) (fun e=>sW O3.out e.symm H73.out (by decide) rfl)).trans H73.out) hB7,
     hset _ _ ((hg.block _ (lt_of_block Q1.out) (fun e=>sW O3.out e.symm Q1.out (by decide) rfl)).trans Q1.out) (by omega),hset _ _ ((hg.block _ (lt_of_block Q2.out) (fun e=>sW O3.out e.symm Q2.out (by decide) rfl)).trans Q2.out) (by omega)⟩
    ·rintro(h|h|h)
     ·have:=yu O3.out hg';omega
     ·exact sW O3.out hg' Q1.out (by decide) h
     ·exact sW O3.out hg' Q2.out (by decide) h
    ·have:=yu O3.out hg'
     omega
   case af9=>
    rintro V2 ada ⟨aaf,⟨hI2,hK3⟩, -⟩
    gi_wp2
    refine⟨hK3,af7.out,?_⟩
    rw[zM]
    show nU w V2 tb w2.heap.size W1.heap.size (je X.n L pre++p9 (jx:Int) (gZ X.n L xg))
    rw[←HE2.out]
    exact hI2
   case afa=>
    rintro c IG V2 KO hF
    exact hF.elim
  case done=>
   rintro D V hD ⟨hp,hI⟩ qx
   obtain⟨v,hv1,hv2⟩:=hI.row
   have g1:V.cell? ⟨w2.heap.size,0,none⟩=some v:=by rw[cell_of_row _ _ _ _ _ _ hv1];rfl
   gi_wp2
   refine⟨by simp, .inl ⟨_,_,rfl,run_takeDeferred qx,?_⟩⟩
   have hk:eB W1.heap.size V (V.putObj D (.deferred none)):=eB.put qx rfl hD
   refine⟨v,?_,v,rfl,?_,(hI.WV hk (by omega)).gG⟩
   ·simp[results,Tryz.results157,go_sem]
   ·rw[HA.out]
    exact pF (FL hv2 hk) (by omega)
  case stop=>
   rintro D c pre V hD hpre hF
   exact hF.elim
 ·have hne:(k !=0)=true:=by simpa using h0
  have HA:Hid (allA X.n L S r=[]):=Lib.hid (by unfold allA;rw[←HK.out,if_neg h0])
  gi_wp2
  refine⟨.slice none 0 0,?_,?_⟩
  ·simp[results,Tryz.results157,go_sem]
  ·rw[HA.out]
   exact⟨_,rfl,World.ownsRow_nil _ _ _ _,B2.out⟩
end Go.Proofs.YtammlljefhakmaaGreatDoor
namespace Go.Proofs.YtammlljefhakmaaGreatDoor
open Go.RowKit Go.Maps
set_option maxRecDepth 100000
theorem SI{n:Nat}{P:List (Nat×Nat)}{R:Nat→Nat}(h:lC n P R)(part:Int)(hn:∀j:Nat,j<1024→iI P (j:Int)≠(part,0)):gI P part=false:=by
 cases hp:gI P part with
 |false=>rfl
 |true=>
  obtain⟨h0,h1⟩:=(ny P part).1 hp
  obtain⟨i,rfl⟩:=Int.eq_ofNat_of_zero_le h0
  have hi:i<P.length:=by omega
  have hr:=h.rng i hi
  have ht:=h.top
  have hin:vY (P.getD i (0,0)) (((P.getD i (0,0)).1:Nat):Int)=true:=(mZ _ _).2 (by omega)
  refine absurd (Iq P _ i hi hin fun j hj=>?_) (hn (P.getD i (0,0)).1 (by omega))
  cases hx:vY (P.getD j (0,0)) (((P.getD i (0,0)).1:Nat):Int)with
  |false=>rfl
  |true=>have:=h.apart i j _ hi (by omega) hin hx;omega
theorem SK{P:List (Nat×Nat)}{x part:Int}(h:iI P x=(part,0)):gI P part=true:=by
 rcases pV P x with⟨i,hi,he,_⟩|⟨he,_⟩
 ·rw[h]at he
  obtain rfl:=(Prod.mk.inj he).1
  exact(ny _ _).2 (by omega)
 ·rw[h]at he
  exact absurd (Prod.mk.inj he).2 (by decide)
def WW(w:World)(P:List (Nat×Nat))(part:Int)(i:Value)(wr:World):Prop:=∃j:Nat,i= .int .i64 (j:Int)∧j≤1024∧Below w.heap.size w wr∧∀k:Nat,k<j→iI P (k:Int)≠(part,0)
set_option maxHeartbeats 1000000 in
theorem WX(X:bD)(L:List Int)(R:Nat→Nat)(part:Int)(w:World)(h:aK w X L R):Calls Tryz.prog 178 #[.pointer (some ⟨X.pb,0,none⟩), .int .i64 part] w fun e w'=>e= .returned (.bool (gI X.P part))∧Below w.heap.size w w':=by
 have H:=Lib.hid h
 clear h
 go_enter Tryz.func178,Tryz.ntmps178
 go_wp2_with fail
 go_loopw [8] (fun i wr=>WW w X.P part i wr) (fun i _=>(1024-(intOf i).toNat))
 case atStart=>exact⟨0,rfl,by omega,Below.refl _ _,fun k hk=>absurd hk (Nat.not_lt_zero _)⟩
 case round=>
  obtain⟨j,rfl,hj,hB,hz⟩:=hrel
  have BB:=Lib.hid hB
  have ZZ:=Lib.hid hz
  clear hB hz
  by_cases hlt:j<1024
  ·obtain⟨⟨a,e⟩,ho⟩:∃t,t=iI X.P (j:Int):=⟨_,rfl⟩
   have HO:=Lib.hid ho
   have hi:Hid (I64 (j:Int)):=Lib.hid ⟨by omega,by omega⟩
   clear ho
   go_wp2_with fail
   refine(pX HO.out.symm (H.out.below BB.out) hi.out).mono ?_
   rintro e' w1 ⟨rfl,hb⟩
   have B1:=Lib.hid (BB.out.trans (hb.mono BB.out.size))
   clear hb
   have next:Hid ((a,e)≠(part,0)→WW w X.P part (.int .i64 ((j+1:Nat):Int)) w1):=Lib.hid fun hne=>⟨j+1,rfl,by omega,B1.out,fun k hk=>by
    rcases Nat.lt_or_ge k j with h|h
    ·exact ZZ.out k h
    ·rw[show k=j by omega,←HO.out];exact hne⟩
   by_cases h0:e=0
   ·subst h0
    by_cases h1:a=part
    ·subst h1
     have hp:=Lib.hid (SK HO.out.symm)
     go_wp2
     go_ret
     exact⟨by rw[hp.out];rfl,B1.out⟩
    ·have hne:(a==part)=false:=by simpa using h1
     go_wp2
     go_roundw
     case rel=>
      have:=next.out (fun h=>h1 (Prod.mk.inj h).1)
      rw[show((j+1:Nat):Int)=(j:Int)+1 by omega]at this
      exact this
     case measure=>simp[intOf];omega
   ·have hne:(e==0)=false:=by simpa using h0
    go_wp2
    go_roundw
    case rel=>
     have:=next.out (fun h=>h0 (Prod.mk.inj h).2)
     rw[show((j+1:Nat):Int)=(j:Int)+1 by omega]at this
     exact this
    case measure=>simp[intOf];omega
  ·obtain rfl:j=1024:=by omega
   have hp:=Lib.hid (SI H.out.fit part ZZ.out)
   go_wp2
   go_ret
   exact⟨by rw[hp.out];rfl,BB.out⟩
theorem afb(P:List (Nat×Nat)):(iI P 0).2≠1:=by
 rcases pV P 0 with⟨i,_,he,_⟩|⟨he,_⟩<;>rw[he]<;>simp
def noS:Nat→Bool:=fun _=>false
def afc(W w:World)(X:bD)(L:List Int)(R:Nat→Nat)(e:Ending)(w':World):Prop:=∃tb sb,e= .returned (.tuple #[.pointer (some ⟨tb,0,none⟩), .int .i64 0])∧Mg W w' tb sb X L R noS∧Below w.heap.size w w'∧w.heap.size≤tb∧w.heap.size≤sb
set_option maxHeartbeats 2000000 in
theorem KQ{W w:World}{X:bD}{L:List Int}{R:Nat→Nat}(h:bX W w X L R)(hw:aM W)(hd:Words L)(hp:gI X.P 0=true):
  Calls Tryz.prog 128 #[.pointer (some ⟨X.mp,0,none⟩), .pointer (some ⟨X.pb,0,none⟩), .int .i64 0] w (afc W w X L R):=by
 obtain⟨⟨a,e⟩,ho⟩:∃t,t=iI X.P 0:=⟨_,rfl⟩
 have HO:=Lib.hid ho
 have h1:=afb X.P
 rw[←ho]at h1
 have hne:(e==1)=false:=by simpa using h1
 have hn0:¬X.n=0:=by have:=h.st.mem.pos;omega
 have hn:((X.n:Int)==0)=false:=by simp;exact hn0
 have H:=Lib.hid h
 have HP:=Lib.hid hp
 have HW:=Lib.hid hw
 have HD:=Lib.hid hd
 have hmm:=@run_makeMap Tryz.prog
 clear ho h1 h hp hw hd
 go_enter Tryz.func128,Tryz.ntmps128
 go_wp2_with(first
  |(go_at_call 67;refine(pX HO.out.symm H.out.st ⟨by decide,by decide⟩).mono ?_;rintro e' w1 ⟨rfl,hb⟩;have H1:=Lib.hid (H.out.step hb);have B1:=Lib.hid hb;clear hb)
  |(go_at_call 65;refine(aO _ _ _ _ _ H1.out.st.mem.iE).mono ?_;rintro e' w' ⟨rfl,rfl⟩)
  |(go_at_call 178;refine(WX X L R 0 _ H1.out.st).mono ?_;rw[HP.out];rintro e' w2 ⟨rfl,hb⟩;have H2:=Lib.hid (H1.out.step hb);have B2:=Lib.hid (B1.out.trans (hb.mono B1.out.size));clear hb))
 go_ret2
 have hb:=ak w2 (.map #[] 0) (.cells #[.pointer (some ⟨X.mp,0,none⟩), .pointer (some ⟨X.pb,0,none⟩), .int .i64 0, .map (some w2.heap.size)] 261)
 have hge:W.heap.size≤w2.heap.size:=Nat.le_trans H2.out.below.size (Nat.le_refl _)
 have hmb:X.mb<w2.heap.size:=H2.out.st.lt _ (Or.inl (Or.inr (Or.inl rfl)))
 refine⟨w2.heap.size+1,w2.heap.size,rfl,⟨H2.out.step hb,HW.out,HD.out,heap_alloc2_new _ _ _,(kV.made w2).same ((heap_alloc2_old w2 _ _).trans (heap_alloc_new w2 _).symm),by omega,hge,by omega,fun x hx=>by cases hx⟩,B2.out.trans (hb.mono B2.out.size),by have:=B2.out.size;omega,B2.out.size⟩
set_option maxHeartbeats 1000000 in
theorem NV(X:bD)(L:List Int)(R:Nat→Nat)(part:Int)(w:World)(h:aK w X L R)(hp:gI X.P part=false):
  Calls Tryz.prog 128 #[.pointer (some ⟨X.mp,0,none⟩), .pointer (some ⟨X.pb,0,none⟩), .int .i64 part] w fun e w'=>e= .returned (.tuple #[.pointer none, .int .i64 2])∧Below w.heap.size w w':=by
 obtain⟨⟨a,e⟩,ho⟩:∃t,t=iI X.P 0:=⟨_,rfl⟩
 have HO:=Lib.hid ho
 have h1:=afb X.P
 rw[←ho]at h1
 have hne:(e==1)=false:=by simpa using h1
 have hn0:¬X.n=0:=by have:=h.mem.pos;omega
 have hn:((X.n:Int)==0)=false:=by simp;exact hn0
 have H:=Lib.hid h
 have HP:=Lib.hid hp
 clear ho h1 h hp
 go_enter Tryz.func128,Tryz.ntmps128
 go_wp2_with(first
  |(go_at_call 67;refine(pX HO.out.symm H.out ⟨by decide,by decide⟩).mono ?_;rintro e' w1 ⟨rfl,hb⟩;have H1:=Lib.hid (H.out.below hb);have B1:=Lib.hid hb;clear hb)
  |(go_at_call 65;refine(aO _ _ _ _ _ H1.out.mem.iE).mono ?_;rintro e' w' ⟨rfl,rfl⟩)
  |(go_at_call 178;refine(WX X L R part _ H1.out).mono ?_;rw[HP.out];rintro e' w2 ⟨rfl,hb⟩;have B2:=Lib.hid (B1.out.trans (hb.mono B1.out.size));clear hb))
 go_ret2
 exact⟨rfl,B2.out⟩
end Go.Proofs.YtammlljefhakmaaGreatDoor
namespace Go.Proofs.YtammlljefhakmaaGreatDoor
open Go.RowKit Go.Maps
set_option maxRecDepth 100000
theorem Mg.open_{W w:World}{tb sb:Nat}{X:bD}{P:List (Nat×Nat)}{L L':List Int}{R R':Nat→Nat}{S S':Nat→Bool}{a e:Int}(h:Mg W w tb sb X L R S)(hP:X.P=P)(ho:oJ P L R S=((a,e),L',R',S')):
  Calls Tryz.prog 155 #[.pointer (some ⟨tb,0,none⟩)] w fun e' w'=>e'= .returned (.tuple #[.int .i64 a, .int .i64 e])∧gB W w w' tb sb X L' R' S':=by
 subst hP
 have:=aac h
 rw[ho]at this
 exact this
theorem Mg.ahm{W w:World}{tb sb n:Nat}{X:bD}{P:List (Nat×Nat)}{L L':List Int}{R R':Nat→Nat}{S:Nat→Bool}{r pg:Int}{p x c:Bool}{g e:Int}(h:Mg W w tb sb X L R S)(hn:X.n=n)(hP:X.P=P)(hr:I64 r)(hp:I64 pg)(ho:mapA n P L R S r pg p x c g=(e,L',R')):
  Calls Tryz.prog 160 #[.pointer (some ⟨tb,0,none⟩), .int .i64 r, .int .i64 pg,ent p x c g] w fun e' w'=>e'= .returned (.int .i64 e)∧gB W w w' tb sb X L' R' S:=by
 subst hP hn
 have:=map_ok h r pg p x c g hr hp
 rw[ho]at this
 exact this
theorem Mg.ahn{W w:World}{tb sb n:Nat}{X:bD}{L L':List Int}{R:Nat→Nat}{S:Nat→Bool}{r pg:Int}{p x c:Bool}{g e:Int}(h:Mg W w tb sb X L R S)(hn:X.n=n)(hr:I64 r)(hp:I64 pg)(he:El n L S r pg p x c g=e)(ho:vJ n L S r pg p x c g=L'):
  Calls Tryz.prog 161 #[.pointer (some ⟨tb,0,none⟩), .int .i64 r, .int .i64 pg,ent p x c g] w fun e' w'=>e'= .returned (.int .i64 e)∧gB W w w' tb sb X L' R S:=by
 subst hn
 have:=ad5 h r pg p x c g hr hp
 rw[ho,he]at this
 exact this
theorem Mg.adb{W w:World}{tb sb n:Nat}{X:bD}{P:List (Nat×Nat)}{L L':List Int}{R R':Nat→Nat}{S:Nat→Bool}{r pg:Int}{p x c:Bool}{g e:Int}(h:Mg W w tb sb X L R S)(hn:X.n=n)(hP:X.P=P)(hr:I64 r)(hp:I64 pg)(ho:yj n P L R S r pg=((p,x,c,g),e,L',R')):
  Calls Tryz.prog 142 #[.pointer (some ⟨tb,0,none⟩), .int .i64 r, .int .i64 pg] w fun e' w'=>e'= .returned (.tuple #[ent p x c g, .int .i64 e])∧gB W w w' tb sb X L' R' S:=by
 subst hP hn
 have:=WO h r pg hr hp
 rw[ho]at this
 exact this
theorem Mg.ade{W w:World}{tb sb n:Nat}{X:bD}{L:List Int}{R:Nat→Nat}{S:Nat→Bool}{r pg:Int}{p x c b:Bool}{g:Int}(h:Mg W w tb sb X L R S)(hn:X.n=n)(hr:I64 r)(hp:I64 pg)(ho:IB n L S r pg=((p,x,c,g),b)):
  Calls Tryz.prog 136 #[.pointer (some ⟨tb,0,none⟩), .int .i64 r, .int .i64 pg] w fun e' w'=>e'= .returned (.tuple #[ent p x c g, .bool b])∧Below w.heap.size w w':=by
 subst hn
 have:=WL h r pg hr hp
 rw[ho]at this
 exact this
theorem Mg.close_{W w:World}{tb sb n:Nat}{X:bD}{P:List (Nat×Nat)}{L:List Int}{R R':Nat→Nat}{S S':Nat→Bool}{r e:Int}(h:Mg W w tb sb X L R S)(hn:X.n=n)(hP:X.P=P)(hr:I64 r)(ho:nT n P L R S r=(e,R',S')):
  Calls Tryz.prog 109 #[.pointer (some ⟨tb,0,none⟩), .int .i64 r] w fun e' w'=>e'= .returned (.int .i64 e)∧gB W w w' tb sb X L R' S':=by
 subst hP hn
 have:=WS h r hr
 rw[ho]at this
 exact this
theorem Mg.aag{W w:World}{tb sb n k:Nat}{X:bD}{L:List Int}{R:Nat→Nat}{S:Nat→Bool}{r:Int}(h:Mg W w tb sb X L R S)(hn:X.n=n)(hr:I64 r)(ho:KN n L S r=k):
  Calls Tryz.prog 156 #[.pointer (some ⟨tb,0,none⟩), .int .i64 r] w fun e' w'=>e'= .returned (.int .i64 (k:Int))∧Below w.heap.size w w':=by
 subst hn
 have:=SC h r hr
 rw[ho]at this
 exact this
end Go.Proofs.YtammlljefhakmaaGreatDoor
namespace Go.Proofs.YtammlljefhakmaaGreatDoor
open Go.RowKit Go.Maps
set_option maxRecDepth 100000
end Go.Proofs.YtammlljefhakmaaGreatDoor
namespace Go.Proofs.YtammlljefhakmaaGreatDoor
open Go.RowKit Go.Maps
set_option maxRecDepth 100000
end Go.Proofs.YtammlljefhakmaaGreatDoor
