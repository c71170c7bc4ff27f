/- The law ProcTurns returns true for every input, and its arguments read behind the call as they read before. Conditions: none beyond the row's own: the masks and the library's two tables start as the text lays them, which the card ties. -/
import Derived.Test.YtammlljefhakmaaGreatDoorJ31
import Derived.Test.YtammlljefhakmaaGreatDoorOP
import Derived.Test.YtammlljefhakmaaGreatDoorTie
import Derived.Test.YtammlljefhakmaaGreatDoorCards
import Derived.SevenTiedAt
namespace Go.Proofs.YtammlljefhakmaaGreatDoor
open Go.ChangeShapes Go.WideShapes Go.ChangeAt Go.RowKit Go.Joins
set_option maxRecDepth 100000
theorem zh(os:Os)(started:os.Started)(H:Type)(enc:TypeId×Value→H):
  ReturnsInHanded {} Tryz.checked os 7 .any (fun w args=>(Rows.procTurnsSpec.pre enc Tryz.prog Tryz.f7 [] false w args∧laidMetH Tryz.prog gU w)∧sizedMet enc Tryz.prog Tryz.f7 (OpenSpec.ofChange Rows.procTurnsSpec) false w args)
   (Rows.procTurnsSpec.post enc Tryz.prog Tryz.f7 false true false false):=by
 refine kJ wV (tb:=4) started (by kernel_rfl) Tryz.func7 rfl rfl Tryz.underlying4 (by kernel_rfl)
  (fun ds h=>by match ds,h with|[_,_],_=>rfl)
  (ChangeSpec.witness_shaped (enc:=enc) (C:=Tryz.checked) (os:=os) (X:=fun w _=>laidMetH Tryz.prog gU w) false (World.doorLaid Tryz.prog 400 os) #[.agg #[.int .i64 0, .int .i64 0], .slice none 0 0] 8 rfl (World.shaped_of_RefB (by kernel_rfl) (by kernel_rfl)) (by kernel_rfl) (by kernel_rfl) (by kernel_rfl) (qM os _)) ?_
 intro W args ds p base hval hA hlt hL
 rw[Tryz.params7]at hA hval
 obtain⟨v0,vs0,d0,ds0,p0,q0,hargs,rfl,rfl,h0,r0⟩:=trodAll_cons hA
 obtain⟨v1,vs1,d1,ds1,p1,q1,rfl,rfl,rfl,h1,r1⟩:=trodAll_cons r0
 obtain⟨rfl,rfl,rfl⟩:=trodAll_nil r1
 obtain rfl:args=#[v0,v1]:=by cases args;simp_all
 obtain⟨x0,y0,rfl,ax0,ay0⟩:=uM (hval 0 29 v0 rfl rfl) h0
 obtain⟨S1,O1⟩:=Dr (hval 1 70 v1 rfl rfl) h1 (fun x hx=>hlt x (by simp[hx]))
 exact Dw x0 y0 v1 S1 W ⟨ax0,ay0⟩ O1 hL
theorem procTurns_holds:Rows.ProcTurnsSaid:=
 OpenClaim.holds_of_wide 7 Tryz.f7 rfl rfl rfl rfl rfl rfl rfl ⟨rfl,rfl,rfl,rfl,rfl⟩ rfl rfl rfl rfl rfl (by kernel_rfl) Tryz.func7 (by kernel_rfl)
  (of_decide_eq_true (by kernel_rfl)) (by unfold Func.isWrapper;first|(rw[if_pos (by decide+kernel)];kernel_rfl)|(rw[if_neg (by decide+kernel)];exact⟨rfl,rfl⟩))
  (fun os started H enc _=>zh os started H enc)
theorem procTurns_card:Rows.ProcTurnsCardSaid:=
 Claim7.holds_tied_plain_at .later [] [.data, .data, .data] true Rows.procTurnsCard.stood.harness false
  procTurns_holds (fun _ h=>by cases h) (by kernel_rfl) (fun _ h=>by cases h) procTurns_row_tie rfl ⟨rfl,rfl⟩ (by kernel_rfl) rfl
  (fun f fn hf hfn=>by
   obtain rfl:f=7:=Option.some.inj ((show Tryz.prog.funcNamed "priory/priorylaw18.ProcTurns" =some 7 by kernel_rfl).symm.trans hf) |>.symm
   obtain rfl:fn=Tryz.f7:=(Option.some.inj (Tryz.func7.symm.trans hfn)).symm
   exact⟨by kernel_rfl,fun j t ht=>by
    rw[Tryz.params7]at ht
    have hm:t∈[29,70]:=by simpa using Array.mem_of_getElem? ht
    have hall:([29,70].all fun u=> !Tryz.prog.wantsStandIn u)=true:=by kernel_rfl
    exact(show Tryz.prog.wantsStandIn t=false by simpa using List.all_eq_true.1 hall t hm)⟩)
  (by kernel_rfl)
end Go.Proofs.YtammlljefhakmaaGreatDoor
