/- What New answers over a pool of sixty-four frames of a memory of seventy. Condition: the listed tables read as laid. -/
import Derived.Test.YtammlljefhakmaaGreatDoorIN
import Derived.Test.YtammlljefhakmaaGreatDoorHW
namespace Go.Proofs.YtammlljefhakmaaGreatDoor
open Go.RowKit Go.Maps
set_option maxRecDepth 100000
def Ji(q sl:Int):Bool:=decide (1≤q)&&(decide (q≤64)&&(decide (1≤sl)&&decide (sl≤8)))
theorem xH{q sl:Int}:Ji q sl=true↔(1≤q∧q≤64)∧1≤sl∧sl≤8:=by unfold Ji;simp;omega
theorem G8{q:Int}:mO q=true↔1≤q∧q≤256:=by unfold mO;simp
structure Jj(W w:World)(mp pb:Nat):Prop where
 ex:∃X L R,bX W w X L R∧X.mp=mp∧X.pb=pb∧X.P=cu 0 64 []∧X.n=70
section
variable {W w:World} {mp pb:Nat}
theorem Jj.step{w':World}(h:Jj W w mp pb)(hb:Below w.heap.size w w'):Jj W w' mp pb:=by
 obtain⟨X,L,R,h1,h2⟩:=h.ex
 exact⟨X,L,R,h1.step hb,h2⟩
theorem Jj.below(h:Jj W w mp pb):Below W.heap.size W w:=by
 obtain⟨X,L,R,h1,h2⟩:=h.ex
 exact h1.below
theorem Jj.ask(h:Jj W w mp pb):∃a er,er≠1∧Jg w (some ⟨mp,0,none⟩) (some ⟨pb,0,none⟩) a er 70:=by
 obtain⟨X,L,R,h1,rfl,rfl,_,hn⟩:=h.ex
 have k:=h1.ask
 rw[hn]at k
 exact⟨_,_,Mt _ _,k⟩
theorem Jj.nomem(h:Jj W w mp pb):∃a er,Jg w none (some ⟨pb,0,none⟩) a er 0:=by
 obtain⟨a,er,_,k⟩:=h.ask
 exact⟨a,er,k.own,fun V hb=>(MK V).mono fun e w' ⟨h1,h2⟩=>⟨h1,by rw[←h2];exact Below.refl _ _⟩⟩
theorem Jj.ae5(h:Jj W w mp pb):Jg w (some ⟨mp,0,none⟩) none 0 1 70:=by
 obtain⟨a,er,_,k⟩:=h.ask
 exact⟨fun V hb=>(Wp none 0 V (Or.inl rfl)).mono fun e w' ⟨h1,h2⟩=>⟨h1,by rw[←h2];exact Below.refl _ _⟩,k.frm⟩
theorem Jj.fit(h:Jj W w mp pb)(sl:Int){b:Bool}(hb:decide (sl≤9)=b):∀V,Below w.heap.size w V→Calls Tryz.prog 69 #[.agg #[.int .i64 64, .int .i64 3], .pointer (some ⟨mp,0,none⟩), .int .i64 sl] V fun e w'=>e= .returned (.bool b)∧Below V.heap.size V w':=fun V hV=>by
 obtain⟨X,L,R,h1,rfl,rfl,_,hn⟩:=h.ex
 exact Yw (tr:=64) (h1.step hV).st.mem (by omega) (by omega) sl hb
theorem UA(h:Jj W w mp pb)(q sl:Int):Calls Tryz.prog 26 #[.pointer (some ⟨mp,0,none⟩), .pointer (some ⟨pb,0,none⟩), .int .i64 1, .agg #[.int .i64 64, .int .i64 3], .agg #[.int .i64 q, .int .i64 sl]] w fun e w'=>e= .returned (.tuple #[.pointer none, .int .i64 2])∧Below w.heap.size w w':=by
 obtain⟨a,er,h1,k⟩:=h.ask
 cases hq:mO q with
 |false=>exact y9 k (by decide) h1 hq
 | true=>
  by_cases h9:sl≤9
  ·by_cases hs:1≤sl∧sl≤8
   ·refine GY k (by decide) h1 hq (h.fit sl (decide_eq_true h9)) hs fun V bb bm Pb hV hB=>?_
    obtain⟨X,L,R,ho,rfl,rfl,hP,hn⟩:=h.ex
    exact YJ hB (fun V2 hb2=>NV X L R 1 V2 ((ho.step hV).step hb2).st (by rw[hP];decide)) (by decide)
   ·exact GX k (by decide) h1 hq (h.fit sl (decide_eq_true h9)) hs
  ·exact ze k (by decide) h1 hq (h.fit sl (decide_eq_false h9))
theorem UC(h:Jj W w mp pb)(q sl:Int):Calls Tryz.prog 26 #[.pointer (some ⟨mp,0,none⟩), .pointer (some ⟨pb,0,none⟩), .int .i64 0, .agg #[.int .i64 64, .int .i64 0], .agg #[.int .i64 q, .int .i64 sl]] w fun e w'=>e= .returned (.tuple #[.pointer none, .int .i64 2])∧Below w.heap.size w w':=by
 obtain⟨a,er,h1,k⟩:=h.ask
 cases hq:mO q with
 |false=>exact y9 k (by decide) h1 hq
 |true=>exact ze k (by decide) h1 hq fun V _=>Yx (tr:=64) sl
end
def agt(W:World)(mp pb:Nat)(q sl:Int)(e:Ending)(w':World):Prop:=∃y er,e= .returned (.tuple #[.pointer y, .int .i64 er])∧((Ji q sl=true∧er=0∧∃b,y=some ⟨b,0,none⟩)∨(Ji q sl=false∧er=2∧y=none))∧Jj W w' mp pb
theorem YL{W w:World}{X:bD}(ho:bX W w X (List.replicate (70*32) 0) R0)(hw:aM W)(hX:X.n=70)(hP:X.P=cu 0 64 [])(q sl:Int):Calls Tryz.prog 26 #[.pointer (some ⟨X.mp,0,none⟩), .pointer (some ⟨X.pb,0,none⟩), .int .i64 0, .agg #[.int .i64 64, .int .i64 3], .agg #[.int .i64 q, .int .i64 sl]] w (agt W X.mp X.pb q sl):=by
 have h:Jj W w X.mp X.pb:=⟨X,_,_,ho,rfl,rfl,hP,hX⟩
 obtain⟨a,er,h1,k⟩:=h.ask
 have bad:Ji q sl=false→∀(e:Ending) (w':World),(e= .returned (.tuple #[.pointer none, .int .i64 2])∧Below w.heap.size w w')→agt W X.mp X.pb q sl e w':=fun hm e w' ⟨he,hb⟩=>⟨none,2,he,Or.inr ⟨hm,rfl,rfl⟩,h.step hb⟩
 have no:¬((1≤q∧q≤64)∧1≤sl∧sl≤8)→Ji q sl=false:=fun hn=>by
  cases hm:Ji q sl with
  |false=>rfl
  |true=>exact absurd (xH.1 hm) hn
 cases hq:mO q with
 |false=>
  refine(y9 k (by decide) h1 hq).mono (bad (no fun hn=>?_))
  rw[G8.2 (by omega)]at hq
  cases hq
 | true=>
  have hq2:=G8.1 hq
  by_cases h9:sl≤9
  ·by_cases hs:1≤sl∧sl≤8
   ·obtain⟨n,rfl⟩:∃n:Nat,q=(n:Int):=⟨q.toNat,by omega⟩
    by_cases h64:n≤64
    ·refine(QI (lo:=0) (hi:=64) (q:=n) (tr:=64) (n:=70) (Tp:=[]) ho hw ⟨by omega,by omega⟩ (by omega) hX hP ⟨by omega,by omega⟩ (by omega) ⟨by omega,by omega⟩ hs).mono ?_
     rintro e w' ⟨J,s,rfl,_,_,hpb,hmp,hJP,⟨hn,_,_⟩,hp,_⟩
     obtain⟨X',L,R,o1,o2,o3,o4,o5⟩:=hp.pool
     exact⟨_,_,rfl,Or.inl ⟨xH.2 (by omega),rfl,_,rfl⟩,X',L,R,o1,o2.trans hmp,o3.trans hpb,o4.trans (hJP.trans hP),o5.trans hn⟩
    ·refine(GY k (by decide) h1 hq (h.fit sl (decide_eq_true h9)) hs fun V bb bm Pb hV hB=>?_).mono (bad (no fun hn=>by omega))
     exact YK (lo:=0) (hi:=64) (n:=70) (T:=[]) (ho.step hV) hw ⟨by omega,by omega⟩ (by omega) hX hP (by omega) hB
   ·exact(GX k (by decide) h1 hq (h.fit sl (decide_eq_true h9)) hs).mono (bad (no fun hn=>hs hn.2))
  ·exact(ze k (by decide) h1 hq (h.fit sl (decide_eq_false h9))).mono (bad (no fun hn=>by omega))
end Go.Proofs.YtammlljefhakmaaGreatDoor
