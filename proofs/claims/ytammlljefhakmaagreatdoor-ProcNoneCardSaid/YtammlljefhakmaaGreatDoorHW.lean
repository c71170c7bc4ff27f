/- Helps of the proof. No condition. -/
import Derived.Test.YtammlljefhakmaaGreatDoorHT
namespace Go.Proofs.YtammlljefhakmaaGreatDoor
open Go.RowKit Go.Maps
set_option maxRecDepth 100000
section
end
section
set_option maxHeartbeats 2000000 in
theorem YJ{w:World}{m p:Option Addr}{k:Int}{bb bm:Nat}{Pb:Pt}{q er:Int}(hB:bA w bb bm Pb [(1,0,q,0)])(hP:∀W,Below w.heap.size w W→Calls Tryz.prog 128 #[.pointer m, .pointer p, .int .i64 k] W fun e w'=>e= .returned (.tuple #[.pointer none, .int .i64 er])∧Below W.heap.size W w')(hne:(er !=0)=true):
  Calls Tryz.prog 72 #[.pointer m, .pointer p, .int .i64 k, .pointer (some ⟨bb,0,none⟩)] w fun e w'=>e= .returned (.tuple #[.pointer none, .int .i64 er])∧Below w.heap.size w w':=by
 have AL:=Lib.hid (uo hB)
 have PN:=Lib.hid hP
 clear hB hP
 go_enter Tryz.func72,Tryz.ntmps72
 go_wp2_with fail
 refine AL.out.mono ?_
 rintro e w1 ⟨v,rfl,ho,hb⟩
 have B1:=Lib.hid hb
 obtain⟨a,cp,rfl⟩:=Me ho
 clear ho hb
 simp only[List.length_singleton]
 go_wp2_with fail
 refine(PN.out w1 B1.out).mono ?_
 rintro e w2 ⟨rfl,hb⟩
 have B2:=Lib.hid (B1.out.trans (hb.mono B1.out.size))
 clear hb
 go_wp2_with fail
 go_ret2
 exact⟨rfl,B2.out⟩
set_option maxHeartbeats 4000000 in
theorem YK{W0 w:World}{X:bD}{n lo hi q bb bm:Nat}{Pb:Pt}{T:List (Nat×Nat)}(h:bX W0 w X (List.replicate (n*32) 0) R0)(hw:aM W0)(hl:lo<hi∧hi≤n)(hn:n≤1024)(hX:X.n=n)(hP:X.P=cu lo hi T)(hq:hi-lo<q)
    (hB:bA w bb bm Pb [(1,0,(q:Int),0)]):
    Calls Tryz.prog 72 #[.pointer (some ⟨X.mp,0,none⟩), .pointer (some ⟨X.pb,0,none⟩), .int .i64 0, .pointer (some ⟨bb,0,none⟩)] w fun e w'=>e= .returned (.tuple #[.pointer none, .int .i64 2])∧Below w.heap.size w w':=by
  have h:=h.kw fun _ _=>0
  have AL:=Lib.hid (uo hB)
  have MG:=Lib.hid (show ∀W,Below w.heap.size w W→_ from fun W hb=>KQ (h.step hb) hw (zS (n*32)) (by show gI X.P 0=true;rw[hP];simp[gI]))
  have HH:=Lib.hid (And.intro hl (And.intro hn (And.intro hX hP)))
  obtain⟨c,hc⟩:∃c,c=hi-lo:=⟨_,rfl⟩
  have HC:=Lib.hid hc
  have d0:decide ((c:Int)<(q:Int))=true:=decide_eq_true (by omega)
  clear hl hn hX hP hq hB h hc
  go_enter Tryz.func72,Tryz.ntmps72
  go_wp2_with fail
  refine AL.out.mono ?_
  rintro e w1 ⟨v,rfl,ho,hb⟩
  have B1:=Lib.hid hb
  have N1:=Lib.hid (L9.lJ ho)
  obtain⟨a,cp,rfl,hg⟩:=N1.out
  obtain⟨g,rfl,hg1,hg2⟩:=hg.resolve_left (by simp)
  have c2:w1.cell? ⟨g,2,none⟩=some (.int .i64 (q:Int)):=(hg2 0 (by simp)).2.2.1
  have G1:=Lib.hid (And.intro hg1 c2)
  clear ho hb hg hg1 hg2 c2 N1
  simp only[List.length_singleton]
  go_wp2_with fail
  refine(MG.out w1 B1.out).mono ?_
  rintro e w2 ⟨tb,sb,rfl,hg,hb2,ht,hs⟩
  have B2:=Lib.hid (B1.out.trans (hb2.mono B1.out.size))
  have c2:w2.cell? ⟨g,2,none⟩=some (.int .i64 (q:Int)):=(hb2.cell (p:=⟨g,2,none⟩) G1.out.1).trans G1.out.2
  have SY:=Lib.hid (bM.start hg HH.out.1 HH.out.2.1 HH.out.2.2.1 HH.out.2.2.2 fun _ _=>rfl)
  rw[←HC.out]at SY
  have LF:=Lib.hid (SY.out.step (Below.refl _ _).drew).left
  have GL:=Lib.hid (show g<w2.heap.size from Nat.lt_of_lt_of_le G1.out.1 hb2.size)
  clear hg hb2 ht hs
  go_wp2_with fail
  go_region_held3 (fun W=>W.cell? ⟨g,2,none⟩=some (.int .i64 (q:Int))) (first|go_keep|exact c2)
    (first
      |((go_at_call 35;with_reducible refine LF.out.mono ?_);rintro e w3 ⟨rfl,hb3⟩;have B3:Hid (Below w2.heap.size w2 w3):=Lib.hid (eF hb3);have c2:w3.cell? ⟨g,2,none⟩=some (.int .i64 (q:Int)):=(B3.out.cell (p:=⟨g,2,none⟩) GL.out).trans c2;clear hb3))
  have lt:=of_decide_eq_true d0
  all_goals
    first
      |(exfalso;omega)
      | (go_wp2_with fail
         go_ret2
         exact⟨rfl,B2.out.trans (B3.out.mono B2.out.size)⟩)
      |(exfalso;have lt:=of_decide_eq_true d0;omega)
      |(exfalso;have lt:=of_decide_eq_true d0;simp_all)
end
end Go.Proofs.YtammlljefhakmaaGreatDoor
