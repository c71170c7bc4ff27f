/- Helps of the proof. No condition. -/
import Derived.Test.YtammlljefhakmaaGreatDoorGB
import Derived.Test.YtammlljefhakmaaGreatDoorGD8
import Derived.Test.YtammlljefhakmaaGreatDoorGA0
import Derived.WalkMore
namespace Go.Proofs.YtammlljefhakmaaGreatDoor
open Go.RowKit
set_option maxRecDepth 100000
section
abbrev fQ:=Bool×Bool×Bool×Int
def iB(e:fQ):Value:=ent e.1 e.2.1 e.2.2.1 e.2.2.2
def z0:fQ:=(false,false,false,0)
def decode(a:Int):Option fQ:=
 let p:=decide (a%2=1)
 let w:=decide (a/2%2=1)
 let c:=decide (a/4%2=1)
 if nM p w c (a/256%1024)=true∧fu p w c (a/256%1024)=a then some (p,w,c,a/256%1024)else none
theorem lu(a:Int):a%2=bit (decide (a%2=1)):=by
 by_cases h:a%2=1<;>simp[bit,h];omega
theorem get_some(a:Int)(e:fQ)(W:World)(h0:0≤a)(h1:a<4294967296)(h:decode a=some e)(hL:aM W):
  Calls Tryz.prog 239 #[.int .u32 a] W fun r w'=>r= .returned (.tuple #[iB e, .int .i64 0])∧Below W.heap.size W w':=by
 unfold decode at h
 simp only[]at h
 split at h
 ·rename_i hg
  obtain rfl:=(Option.some.inj h).symm
  exact ZH a _ _ _ _ W h0 h1 (by rw[Int.ediv_one];exact lu a) (lu _) (lu _) rfl hg.1 hg.2 hL
 ·exact absurd h (by simp)
theorem get_none(a:Int)(W:World)(h0:0≤a)(h1:a<4294967296)(h:decode a=none)(hL:aM W):
  Calls Tryz.prog 239 #[.int .u32 a] W fun r w'=>r= .returned (.tuple #[iB z0, .int .i64 6])∧Below W.heap.size W w':=by
 unfold decode at h
 simp only[]at h
 split at h
 ·exact absurd h (by simp)
 ·rename_i hg
  exact ZI a _ _ _ _ W h0 h1 (by rw[Int.ediv_one];exact lu a) (lu _) (lu _) rfl hg hL
theorem Ao{p w c:Bool}{f:Int}(h:nM p w c f=true):0≤f∧f<1024∧(p=false→f=0∧w=false∧c=false):=by
 cases p<;>cases w<;>cases c<;>simp[nM]at h ⊢ <;>omega
theorem Nu{a:Int}{e:fQ}(h:decode a=some e):0≤e.2.2.2∧e.2.2.2<1024∧(e.1=false→e=z0):=by
 unfold decode at h
 simp only[]at h
 split at h
 ·rename_i hg
  obtain rfl:=(Option.some.inj h).symm
  obtain⟨h1,h2,h3⟩:=Ao hg.1
  refine⟨h1,h2,fun hp=>?_⟩
  obtain⟨k1,k2,k3⟩:=h3 hp
  simp only[z0,Prod.mk.injEq]
  exact⟨hp,k2,k3,k1⟩
 ·exact absurd h (by simp)
instance(n:Nat)(f q:Int):Decidable (j5 n f q):=by unfold j5;exact inferInstance
def dV(n:Nat)(L:List Int)(f q:Int):Option fQ:=
 if j5 n f q then(match decode (L.getD (idx f q) 0)with
  |some e=>if e.2.2.2<(n:Int)then some e else none
  |none=>none)else none
def Words(L:List Int):Prop:=∀i,0≤L.getD i 0∧L.getD i 0<4294967296
theorem BH{n:Nat}{L:List Int}{f q:Int}{e:fQ}(h:dV n L f q=some e):j5 n f q∧decode (L.getD (idx f q) 0)=some e∧e.2.2.2<(n:Int):=by
 unfold dV at h
 split at h
 ·rename_i hk
  split at h
  ·rename_i e' hd
   split at h
   ·rename_i hl
    obtain rfl:=Option.some.inj h
    exact⟨hk,hd,hl⟩
   ·exact absurd h (by simp)
  ·exact absurd h (by simp)
 ·exact absurd h (by simp)
theorem Nv{n:Nat}{L:List Int}{f q:Int}(h:dV n L f q=none):¬j5 n f q∨(j5 n f q∧decode (L.getD (idx f q) 0)=none)∨(j5 n f q∧∃e,decode (L.getD (idx f q) 0)=some e∧(n:Int)≤e.2.2.2):=by
 unfold dV at h
 split at h
 ·rename_i hk
  split at h
  ·rename_i e' hd
   split at h
   ·exact absurd h (by simp)
   ·rename_i hl
    exact Or.inr (Or.inr ⟨hk,e',hd,by omega⟩)
  ·rename_i hd
   exact Or.inr (Or.inl ⟨hk,hd⟩)
 ·rename_i hk
  exact Or.inl hk
end
section
end
section
end
section
end
end Go.Proofs.YtammlljefhakmaaGreatDoor
