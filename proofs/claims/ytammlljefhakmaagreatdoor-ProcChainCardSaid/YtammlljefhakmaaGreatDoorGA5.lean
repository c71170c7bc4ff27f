/- Helps of the proof. No condition. -/
import Derived.Test.YtammlljefhakmaaGreatDoorGA
namespace Go.Proofs.YtammlljefhakmaaGreatDoor
open Go.RowKit
set_option maxRecDepth 100000
set_option maxRecDepth 100000 in
set_option maxHeartbeats 400000 in
theorem ZG(a:Int)(w:World)(h0:0≤a)(h1:a<32768)(h:aM w):Calls Tryz.prog 130 #[.int .u32 a] w fun e w'=>e= .returned (.tuple #[.int .i64 (a/1024), .int .i64 (a/32%32), .int .i64 (a%32), .int .i64 0])∧∃n,w'=w.drewN n:=by
 have H:=Lib.hid h
 clear h
 have E:Hid (a/1024%32=a/1024):=Lib.hid (by omega)
 have e6:=acy a w h0 (by omega) H.out
 rw[E.out]at e6
 have E6:=Lib.hid e6
 clear e6
 go_enter Tryz.func130,Tryz.ntmps130
 go_wp2_with fail
 refine E6.out.mono ?_
 rintro e w1 ⟨rfl,n1,rfl⟩
 go_wp2_with fail
 refine(acv a _ h0 (by omega) (by exact H.out.of_cells (fun _ _ _=>rfl))).mono ?_
 rintro e w1 ⟨rfl,n2,rfl⟩
 go_wp2_with fail
 refine(acs a _ h0 (by omega) (by exact H.out.of_cells (fun _ _ _=>rfl))).mono ?_
 rintro e w1 ⟨rfl,n3,rfl⟩
 go_wp2
 exact bodyPost_ret (v:= .tuple #[.int .i64 (a/1024), .int .i64 (a/32%32), .int .i64 (a%32), .int .i64 0]) (by simp[results,Tryz.results130,go_sem]) rfl ⟨rfl,n1+n2+n3,by simp⟩
set_option maxRecDepth 100000 in
set_option maxHeartbeats 400000 in
theorem VP(a:Int)(w:World)(h:32768≤a):Calls Tryz.prog 129 #[.int .u32 a] w fun e w'=>e= .returned (.tuple #[.int .i64 0, .int .i64 7])∧w'=w:=by
 go_enter Tryz.func129,Tryz.ntmps129
 go_wp2
 go_ret2
 exact⟨rfl,rfl⟩
set_option maxRecDepth 100000 in
set_option maxHeartbeats 400000 in
theorem RQ(a:Int)(w:World)(h0:0≤a)(h1:a<32768)(h:aM w):Calls Tryz.prog 129 #[.int .u32 a] w fun e w'=>e= .returned (.tuple #[.int .i64 (a/32), .int .i64 0])∧∃n,w'=w.drewN n:=by
 have e7:=acA a w h0 (by omega) h
 rw[show a/32%1024=a/32 from by omega]at e7
 have E7:=Lib.hid e7
 clear e7 h
 go_enter Tryz.func129,Tryz.ntmps129
 go_wp2_with fail
 refine E7.out.mono ?_
 rintro e w1 ⟨rfl,n1,rfl⟩
 go_wp2
 go_ret2
 exact⟨rfl,_,rfl⟩
end Go.Proofs.YtammlljefhakmaaGreatDoor
