/- Helps of the proof. No condition. -/
import Derived.Test.YtammlljefhakmaaGreatDoorGLF
import Derived.LaidMore
import Derived.Stop.Joined
import Derived.Lib.SmallJoins
import Derived.Lib.LaidTab
import Derived.Stop.LaidErr
namespace Go.Proofs.YtammlljefhakmaaGreatDoor
open Go.ChangeShapes Go.WideShapes Go.ChangeAt Go.RowKit
set_option maxRecDepth 100000
section
variable {H:Type} {enc:TypeId×Value→H}
theorem nV{laid:List (String×DataW Unit)}{Laid:World→Prop}(hlaid:∀{W:World},laidMetH Tryz.prog laid W→Laid W){os:Os}(started:os.Started){F:FuncId}{f:Func}{s:ChangeSpec}{tb:TypeId}(noInit:Tryz.checked.prog.inits.idxOf? F=none)(hf:Tryz.checked.prog.funcs[F]? =some f)(hvars:s.vars=[])(hres:f.resultTypes=#[tb])(htb:Tryz.prog.underlying tb=some .bool)
  (hread:f.params.toList.all (fun t=>Tryz.prog.readableRec t&&decide (t<Tryz.prog.types.size))=true)
  (hspec:∀ds:List (DataW H),ds.length=f.params.toList.length→s.fn H ds={ results:=[.lit (.bool true)],args:=ds })
  (witness:∃(w:World) (tape:Tape) (i:Input),w.os=os∧(w.forCall tape i).Shaped Tryz.checked.prog∧i.vars=[]∧Input.okWide Tryz.checked.prog (w.forCall tape i) .any w.heap.size F i∧
   ((s.pre enc Tryz.checked.prog f [] false (w.forCall tape i).memory i.args∧laidMetH Tryz.prog laid (w.forCall tape i).memory)∧sizedMet enc Tryz.checked.prog f (OpenSpec.ofChange s) false (w.forCall tape i).memory i.args)∧({}:Assume).holds Tryz.checked.prog (lone (Frame.enter Tryz.checked.prog F i.args .normal) [] (w.forCall tape i)))
  (walk:∀(W:World) (args:Array Value) (ds:List (DataW H)) (p:List MemPlace) (base:Nat),(∀(j:Nat) t v,f.params[j]? =some t→args[j]? =some v→Value.okWide Tryz.prog W .any base t v)→
   DataW.TrodAll enc Tryz.prog W 0 (fun _=>true) true f.params.toList args.toList ds p→(∀x∈p,x.block<W.heap.size)→Laid W→
   Calls Tryz.prog F args W fun e W'=>e= .returned (.bool true)∧Below W.heap.size W W'):
  ReturnsInHanded {} Tryz.checked os F .any (fun w args=>(s.pre enc Tryz.prog f [] false w args∧laidMetH Tryz.prog laid w)∧sizedMet enc Tryz.prog f (OpenSpec.ofChange s) false w args) (s.post enc Tryz.prog f false true false false):=by
 refine returnsInHanded_of_change_and (C:=Tryz.checked) (X:=fun w _=>laidMetH Tryz.prog laid w) (fun _ _ _ hh h=>h.of_heap hh) Tryz.ownKnob started noInit hf witness ?_
 intro W base args ds gs before hval hW _ _ hL _
 have hW':=hW
 obtain⟨p,q,hA,hV,rfl,hfz,hnd⟩:=hW
 rw[hvars]at hV
 obtain⟨rfl,rfl⟩:=trodVars_none hV
 have hlt:∀x∈p,x.block<W.heap.size:=fun x hx=>hW'.lt x (by simp[hx])
 have hrd:∀t∈f.params.toList,Tryz.prog.readableRec t=true∧t<Tryz.prog.types.size:=fun t ht=>by
  have:=List.all_eq_true.1 hread t ht
  simpa using this
 have hs:=hspec ds (trodAll_length _ _ _ _ hA)
 refine(walk W args ds p base hval hA hlt (hlaid hL)).mono fun e W' ⟨he,hb⟩=>?_
 subst he
 have hs':s.fn H (ds++[])={ results:=[.lit (.bool true)],args:=ds }:=by rw[List.append_nil];exact hs
 refine⟨_,rfl,ds,[],_,[],p,[],hW',?_,?_,?_,World.keptBut_mono (fun x hx=>⟨hx,Or.inr (by simpa using hx)⟩) (hb.frame (· ∈p++[])),fun h=>by cases h⟩
 ·rw[hs',hres]
  exact trodAll_cons_mk (shut_bool htb _) trodAll_mk0
 ·rw[hs']
  exact uY hb _ _ _ _ _ hrd hA hlt (fun x hx=>by simpa using hlt x hx)
 ·rw[hs',hvars]
  rfl
end
end Go.Proofs.YtammlljefhakmaaGreatDoor
