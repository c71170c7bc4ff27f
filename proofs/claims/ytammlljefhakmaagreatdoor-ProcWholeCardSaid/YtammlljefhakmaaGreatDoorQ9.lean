/- Rows of numbers in memory, and the contracts of the document's own Has, Same, New, layer 8. Condition: the rows lie in memory. -/
import Derived.Test.YtammlljefhakmaaGreatDoorGJ
namespace Go.Proofs.YtammlljefhakmaaGreatDoor
open Go.RowKit
set_option maxRecDepth 100000
def Du(w:World)(v:Value)(L:List Nat):Prop:=(v= .slice none 0 0∧L=[])∨∃b o c,v= .slice (some ⟨b,o,none⟩) L.length c∧L.length≤c∧c≤maxLen∧b<w.heap.size∧∀i,i<L.length→w.cell? ⟨b,o+i,none⟩=some (.int .i64 ((L.getD i 0:Nat):Int))
theorem Du.below{w w':World}{v:Value}{L:List Nat}(h:Du w v L)(hb:Below w.heap.size w w'):Du w' v L:=by
 rcases h with h|⟨b,o,c,rfl,h1,h2,h3,h4⟩
 ·exact Or.inl h
 ·exact Or.inr ⟨b,o,c,rfl,h1,h2,Nat.lt_of_lt_of_le h3 hb.size,fun i hi=>(hb.cell (p:=⟨b,o+i,none⟩) h3).trans (h4 i hi)⟩
theorem Du.open_{w:World}{v:Value}{L:List Nat}(h:Du w v L):∃a c,v= .slice a L.length c∧∀k,k<L.length→∃b o,a=some ⟨b,o,none⟩∧b<w.heap.size∧∀i,i<L.length→w.cell? ⟨b,o+i,none⟩=some (.int .i64 ((L.getD i 0:Nat):Int)):=by
 rcases h with⟨rfl,rfl⟩|⟨b,o,c,rfl,_,_,h3,h4⟩
 ·exact⟨none,0,rfl,fun k hk=>absurd hk (Nat.not_lt_zero _)⟩
 ·exact⟨_,c,rfl,fun k _=>⟨b,o,rfl,h3,h4⟩⟩
theorem TP(L:List Nat)(i:Nat)(h:i<L.length):(pW L)[i]? =some (.int .i64 ((L.getD i 0:Nat):Int)):=by
 simp[pW,h]
theorem Yd{w:World}{base:Nat}{e:TypeId}{v:Value}{L:List Nat}(h:w.ownsRow base e 1 v L.length (pW L)):Du w v L:=by
 have h':=h
 rcases h.2 with⟨rfl,h0⟩|⟨g,cap,cur,rfl,hb,hg,h1,h2,_⟩
 ·exact Or.inl ⟨rfl,List.eq_nil_of_length_eq_zero h0⟩
 ·refine Or.inr ⟨g,0,cap,rfl,h1,h2,lt_of_block hg,fun i hi=>?_⟩
  have:=h'.cells (g:=g) rfl i _ (TP L i hi)
  rwa [Addr.add_mid]at this
theorem Ye{L:List Nat}{i:Nat}(h:i<L.length):L.getD i 0∈L:=by
 rw[List.getD_eq_getElem?_getD,List.getElem?_eq_getElem h];exact List.getElem_mem _
theorem Eo(L:List Nat)(k n:Nat)(h:k<L.length):n∈L.take (k+1)↔n∈L.take k∨L.getD k 0=n:=by
 rw[List.take_succ_eq_append_getElem h,List.mem_append,List.mem_singleton,List.getD_eq_getElem?_getD,List.getElem?_eq_getElem h]
 constructor
 ·rintro(x|x)
  ·exact Or.inl x
  ·exact Or.inr x.symm
 ·rintro(x|x)
  ·exact Or.inl x
  ·exact Or.inr x.symm
def Yk(L:List Nat)(n:Int):Bool:=decide (0≤n)&&decide (n.toNat∈L)
theorem adC(L:List Nat)(n:Int):Yk L n=false↔∀m∈L,(m:Int)≠n:=by
 rw[Yk,←Bool.not_eq_true,Bool.and_eq_true,decide_eq_true_eq,decide_eq_true_eq]
 constructor
 ·intro h m hm e
  exact h ⟨by omega,by rw[←e];simpa using hm⟩
 ·rintro h ⟨h1,h2⟩
  exact h _ h2 (by omega)
theorem aaE(L:List Nat)(m:Nat)(h:m∈L):Yk L (m:Int)=true:=by simp[Yk,h]
set_option maxHeartbeats 1000000 in
theorem aaF(L:List Nat)(v:Value)(n:Int)(w:World)(h:Du w v L)(hl:L.length≤2000):Calls Tryz.prog 31 #[v, .int .i64 n] w fun e w'=>e= .returned (.bool (Yk L n))∧w=w':=by
 obtain⟨a,c,rfl,hc⟩:=h.open_
 have HC:=Lib.hid hc
 obtain⟨m,hm⟩:∃m,m=L.length:=⟨_,rfl⟩
 rw[←hm]at hl ⊢
 have HM:=Lib.hid hm
 clear h hc hm
 go_enter Tryz.func31,Tryz.ntmps31
 go_wp2_with fail
 obtain⟨W,hW⟩:∃W,W=w:=⟨_,rfl⟩
 rw[←hW]at HC
 have HW:=Lib.hid hW
 clear hW
 go_loopw [5] (fun i wr=>∃k:Nat,i= .int .i64 (k:Int)∧k≤m∧(∀x∈L.take k,(x:Int)≠n)∧W=wr) (fun i _=>m-(intOf i).toNat)
 case atStart=>exact⟨0,rfl,Nat.zero_le _,by simp,HW.out⟩
 case round=>
  obtain⟨k,rfl,hk,hno,rfl⟩:=hrel
  have NO:=Lib.hid hno
  clear hno
  by_cases hlt:k<m
  ·obtain⟨b,o,rfl,_,hcell⟩:=HC.out k (by have:=HM.out;omega)
   have ck:=hcell k (by have:=HM.out;omega)
   have hmt:=Eo L k
   obtain⟨x,hx⟩:∃x,x=L.getD k 0:=⟨_,rfl⟩
   rw[←hx]at ck
   have HX:=Lib.hid hx
   have HMT:=Lib.hid hmt
   clear hcell hx hmt
   by_cases he:(x:Int)=n
   ·have hb:((x:Int)==n)=true:=by simp[he]
    go_wp2
    go_ret
    exact⟨by rw[←he,aaE L x (by rw[HX.out];exact Ye (by have:=HM.out;omega))];rfl,HW.out.symm⟩
   ·have hb:((x:Int)==n)=false:=by simp[he]
    have HE:=Lib.hid he
    clear he
    go_wp2
    go_roundw
    case rel=>exact⟨k+1,by go_num,by omega,fun y hy=>by
     rcases(HMT.out y (by have:=HM.out;omega)).1 hy with hy|hy
     ·exact NO.out y hy
     ·rw[←hy,←HX.out];exact HE.out,trivial⟩
    case measure=>simp[intOf];omega
  ·obtain rfl:k=m:=by omega
   have hno:=NO.out
   rw[HM.out,List.take_length]at hno
   have R:=Lib.hid ((adC L n).2 hno)
   clear hno hlt
   go_wp2
   go_ret
   exact⟨by rw[R.out];rfl,HW.out.symm⟩
set_option maxHeartbeats 1000000 in
theorem Mk(L:List Nat)(v1 v2:Value)(w:World)(h1:Du w v1 L)(h2:Du w v2 L)(hl:L.length≤2000):Calls Tryz.prog 36 #[v1,v2] w fun e w'=>e= .returned (.bool true)∧Below w.heap.size w w':=by
 obtain⟨a,c,rfl,hc⟩:=h1.open_
 obtain⟨a',c',rfl,hc'⟩:=h2.open_
 have HC:=Lib.hid hc
 have HC':=Lib.hid hc'
 obtain⟨m,hm⟩:∃m,m=L.length:=⟨_,rfl⟩
 rw[←hm]at hl ⊢
 have HM:=Lib.hid hm
 clear h1 h2 hc hc' hm
 go_enter Tryz.func36,Tryz.ntmps36
 go_wp2_with fail
 obtain⟨W,hW⟩:∃W,W=w:=⟨_,rfl⟩
 rw[←hW]at HC HC'
 have HW:=Lib.hid hW
 clear hW
 go_loopw [5] (fun i wr=>∃k:Nat,i= .int .i64 (k:Int)∧k≤m∧Below W.heap.size W wr) (fun i _=>m-(intOf i).toNat)
 case atStart=>exact⟨0,rfl,Nat.zero_le _,by rw[HW.out];exact Below.refl _ _⟩
 case round=>
  obtain⟨k,rfl,hk,hb⟩:=hrel
  have B:=Lib.hid hb
  by_cases hlt:k<m
  ·obtain⟨b,o,rfl,hbl,hcell⟩:=HC.out k (by have:=HM.out;omega)
   obtain⟨b',o',rfl,Ww,hcell'⟩:=HC'.out k (by have:=HM.out;omega)
   have ck:=(hb.cell (p:=⟨b,o+k,none⟩) hbl).trans (hcell k (by have:=HM.out;omega))
   have ck':=(hb.cell (p:=⟨b',o'+k,none⟩) Ww).trans (hcell' k (by have:=HM.out;omega))
   generalize L.getD k 0=x at ck ck'
   clear hcell hcell' hb
   go_wp2_with fail
   go_quiet (fail)
   go_wp2
   go_roundw
   case rel=>exact⟨k+1,by go_num,by omega,below_drewN B.out _⟩
   case measure=>simp[intOf];omega
  ·obtain rfl:k=m:=by omega
   clear hb
   go_wp2
   go_ret
   exact⟨rfl,by have:=B.out;rwa [HW.out]at this⟩
end Go.Proofs.YtammlljefhakmaaGreatDoor
