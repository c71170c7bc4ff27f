/- The law ProcSame returns true for every input, and its arguments read behind the call as they read before. Conditions: none beyond the row's own: the masks and the library's two tables start as the text lays them, which the card ties. -/
import Derived.Test.YtammlljefhakmaaGreatDoorJ35
import Derived.Test.YtammlljefhakmaaGreatDoorOP
import Derived.Test.YtammlljefhakmaaGreatDoorTie
import Derived.Test.YtammlljefhakmaaGreatDoorCards
import Derived.SevenTiedAt
namespace Go.Proofs.YtammlljefhakmaaGreatDoor
open Go.ChangeShapes Go.WideShapes Go.ChangeAt Go.RowKit Go.Joins
set_option maxRecDepth 100000
theorem zH(os:Os)(started:os.Started)(H:Type)(enc:TypeId×Value→H):
  ReturnsInHanded {} Tryz.checked os 6 .any (fun w args=>(Rows.procSameSpec.pre enc Tryz.prog Tryz.f6 [] false w args∧laidMetH Tryz.prog tX w)∧sizedMet enc Tryz.prog Tryz.f6 (OpenSpec.ofChange Rows.procSameSpec) false w args)
   (Rows.procSameSpec.post enc Tryz.prog Tryz.f6 false true false false):=by
 refine Bn UL (tb:=4) started (by kernel_rfl) Tryz.func6 rfl rfl Tryz.underlying4 (by kernel_rfl)
  (fun ds h=>by match ds,h with|[_,_,_],_=>rfl)
  (ChangeSpec.witness_shaped (enc:=enc) (C:=Tryz.checked) (os:=os) (X:=fun w _=>laidMetH Tryz.prog tX w) false (World.doorLaid Tryz.prog 400 os) #[.agg #[.int .i64 0, .int .i64 0], .slice none 0 0, .agg #[.int .i64 0, .int .i64 0, .int .i64 0, .int .i64 0, .int .i64 0, .bool false, .int .u32 0, .int .u32 0]] 8 rfl (World.shaped_of_RefB (by kernel_rfl) (by kernel_rfl)) (by kernel_rfl) (by kernel_rfl) (by kernel_rfl) (Mr os _)) ?_
 intro W args ds p base hval hA hlt hL
 rw[Tryz.params6]at hA hval
 obtain⟨v0,vs0,d0,ds0,p0,q0,hargs,rfl,rfl,h0,r0⟩:=trodAll_cons hA
 obtain⟨v1,vs1,d1,ds1,p1,q1,rfl,rfl,rfl,h1,r1⟩:=trodAll_cons r0
 obtain⟨v2,vs2,d2,ds2,p2,q2,rfl,rfl,rfl,h2,r2⟩:=trodAll_cons r1
 obtain⟨rfl,rfl,rfl⟩:=trodAll_nil r2
 obtain rfl:args=#[v0,v1,v2]:=by cases args;simp_all
 obtain⟨x0,y0,rfl,ax0,ay0⟩:=RU (hval 0 29 v0 rfl rfl) h0
 obtain⟨S1,O1⟩:=Nb (hval 1 70 v1 rfl rfl) h1 (fun x hx=>hlt x (by simp[hx]))
 obtain⟨q2,rfl,O2⟩:=RS (hval 2 27 v2 rfl rfl) h2
 exact DJ x0 y0 v1 S1 q2 W ⟨ax0,ay0⟩ O1 O2 hL
theorem procSame_holds:Rows.ProcSameSaid:=
 OpenClaim.holds_of_wide 6 Tryz.f6 rfl rfl rfl rfl rfl rfl rfl ⟨rfl,rfl,rfl,rfl,rfl⟩ rfl rfl rfl rfl rfl (by kernel_rfl) Tryz.func6 (by kernel_rfl)
  (of_decide_eq_true (by kernel_rfl)) (by unfold Func.isWrapper;first|(rw[if_pos (by decide+kernel)];kernel_rfl)|(rw[if_neg (by decide+kernel)];exact⟨rfl,rfl⟩))
  (fun os started H enc _=>zH os started H enc)
theorem procSame_card:Rows.ProcSameCardSaid:=
 Claim7.holds_tied_plain_at .later [] [.data, .data, .data] true Rows.procSameCard.stood.harness false
  procSame_holds (fun _ h=>by cases h) (by kernel_rfl) (fun _ h=>by cases h) procSame_row_tie rfl ⟨rfl,rfl⟩ (by kernel_rfl) rfl
  (fun f fn hf hfn=>by
   obtain rfl:f=6:=Option.some.inj ((show Tryz.prog.funcNamed "priory/priorylaw18.ProcSame" =some 6 by kernel_rfl).symm.trans hf) |>.symm
   obtain rfl:fn=Tryz.f6:=(Option.some.inj (Tryz.func6.symm.trans hfn)).symm
   exact⟨by kernel_rfl,fun j t ht=>by
    rw[Tryz.params6]at ht
    have hm:t∈[29,70,27]:=by simpa using Array.mem_of_getElem? ht
    have hall:([29,70,27].all fun u=> !Tryz.prog.wantsStandIn u)=true:=by kernel_rfl
    exact(show Tryz.prog.wantsStandIn t=false by simpa using List.all_eq_true.1 hall t hm)⟩)
  (by kernel_rfl)
end Go.Proofs.YtammlljefhakmaaGreatDoor
