/- Helps of the proof. No condition. -/
import Derived.Test.YtammlljefhakmaaGreatDoorHE
import Derived.Laws.AppendOwnNone
import Derived.StillTailTactics
namespace Go.Proofs.YtammlljefhakmaaGreatDoor
open Go.RowKit Go.Maps
set_option maxRecDepth 100000
section
end
section
end
section
end
section
end
section
theorem XV(L:List Ar):∀u∈arsV L,u.oneCell'=true:=fun u hu=>by
 simp only[arsV,List.mem_flatMap]at hu
 obtain⟨x, -,hu⟩:=hu
 simp only[List.mem_cons,List.not_mem_nil,or_false]at hu
 rcases hu with rfl|rfl|rfl<;>rfl
end
section
end
section
end
section
end
section
end
section
end
section
def afA(w:World)(sv:Value)(m:Nat)(news:List Value):Prop:=(sv= .slice none 0 0∧m=0∧news=[])∨∃ad c,sv= .slice (some ad) m c∧∀j u,news[j]? =some u→w.cell? (ad.add j)=some u
theorem xu{P:Program}{w:World}{ops:Array Oper}{rest:List Oper}{o:Oper}{a:Act}{Q:Exit→Act→World→Prop}(hgd:o.guard=none)(s x:Operand)(t:TypeId)
  (ho:o.op= .call { callee:= .builtin .append,args:=#[s,x],argTypes:=#[t,t] })
  (base:Nat)(e:TypeId)(i:TypeInfo)(z:Value)(size bytes:Nat)(ht:P.underlying t=some (.slice e))(hi:P.info? e=some i)(hz:i.zero=some z)
  (hsize:i.size=size)(hby:i.bytes=bytes)(hzs:z.cells.size=size)(hsz:0<size)
  (v:Value)(n:Nat)(xs:List Value)(hs:a.eval s=v)(hown:w.ownsRow base e size v n xs)
  (sv:Value)(m:Nat)(news:List Value)(hx:a.eval x=sv)(hsv:afA w sv m news)(hl:news.length=m*size)(h1:∀u∈news,u.oneCell'=true)
  (h63:n+m≤maxLen)(hbytes:(n+m)*bytes≤140737488355328)(hbase:base≤w.heap.size)
  (h:∀v' w',w'.ownsRow base e size v' (n+m) (xs++news)→w.grownBy w' v.ownBlock→wpList P ops Q rest (a.put o.dst v') w'):wpList P ops Q (o::rest) a w:=by
 rcases hsv with⟨rfl,rfl,rfl⟩|⟨ad,c,rfl,hc⟩
 ·refine wpList_append_own_none hgd s x t ho base e i size ht hi v n xs hs hown hx (h v w ?_ (aP (Below.refl _ _) _))
  rw[Nat.add_zero,List.append_nil]
  exact hown
 ·exact wpList_append_own w hgd s x t ho base e i z size bytes ht hi hz hsize hby hzs hsz v n xs hs hown ad m c news hx hl hc h1 h63 hbytes hbase fun v' w' h2 h3 _=>h v' w' h2 h3
theorem Ub{w:World}{b o:Nat}{L:List Ar}(h:∀i,i<L.length→Xo w b (o+i*3) (L.getD i default))(j:Nat)(u:Value)(hu:(arsV L)[j]? =some u):w.cell? ((⟨b,o,none⟩:Addr).add j)=some u:=by
 have hj:j<L.length*3:=by have:=(List.getElem?_eq_some_iff.1 hu).1;rwa [CZ]at this
 have hi:j/3<L.length:=by omega
 obtain⟨a0,a1,a2⟩:=CU L (j/3) hi
 obtain⟨c0,c1,c2⟩:=h (j/3) hi
 rw[Addr.add_mid]
 rcases(show j=j/3*3∨j=j/3*3+1∨j=j/3*3+2 by omega)with e|e|e
 ·rw[e]at hu
  rw[a0]at hu
  rw[e,←Option.some.inj hu]
  exact c0
 ·rw[e]at hu
  rw[a1]at hu
  rw[e,←Option.some.inj hu]
  exact c1
 ·rw[e]at hu
  rw[a2]at hu
  rw[e,←Option.some.inj hu]
  exact c2
end
section
end
section
end
end Go.Proofs.YtammlljefhakmaaGreatDoor
