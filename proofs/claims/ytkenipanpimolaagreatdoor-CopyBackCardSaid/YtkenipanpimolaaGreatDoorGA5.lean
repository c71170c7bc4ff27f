/- Texts of mine, joined: W5. What each says and under which conditions stands at its head, below. -/
import Derived.Test.YtkenipanpimolaaGreatDoorGA
/- The contracts of Cut, Page and Address of package word, of the document's own Cut and Put. Conditions: the two tables read as laid. -/
namespace Go.Proofs.YtkenipanpimolaaGreatDoor
open Go.RowKit
set_option maxRecDepth 100000

set_option maxRecDepth 100000 in
set_option maxHeartbeats 400000 in
theorem cut_yes (a : Int) (w : World) (h0 : 0 ≤ a) (h1 : a < 32768) (h : LaidW w) : Calls Tryz.prog 104 #[.int .u32 a] w fun e w' => e = .returned (.tuple #[.int .i64 (a / 1024), .int .i64 (a / 32 % 32), .int .i64 (a % 32), .int .i64 0]) ∧ ∃ n, w' = w.drewN n := by
  have H := Lib.hid h
  clear h
  have E : Hid (a / 1024 % 32 = a / 1024) := Lib.hid (by omega)
  have e6 := take_6 a w h0 (by omega) H.out
  rw [E.out] at e6
  have E6 := Lib.hid e6
  clear e6
  go_enter Tryz.func104, Tryz.ntmps104
  go_wp2_with fail
  refine E6.out.mono ?_
  rintro e w1 ⟨rfl, n1, rfl⟩
  go_wp2_with fail
  refine (take_5 a _ h0 (by omega) (by exact H.out.of_cells (fun _ _ _ => rfl))).mono ?_
  rintro e w1 ⟨rfl, n2, rfl⟩
  go_wp2_with fail
  refine (take_4 a _ h0 (by omega) (by exact H.out.of_cells (fun _ _ _ => rfl))).mono ?_
  rintro e w1 ⟨rfl, n3, rfl⟩
  go_wp2
  exact bodyPost_ret (v := .tuple #[.int .i64 (a / 1024), .int .i64 (a / 32 % 32), .int .i64 (a % 32), .int .i64 0]) (by simp [results, Tryz.results104, go_sem]) rfl ⟨rfl, n1 + n2 + n3, by simp⟩
set_option maxRecDepth 100000 in
set_option maxHeartbeats 400000 in
theorem wpage_no (a : Int) (w : World) (h : 32768 ≤ a) : Calls Tryz.prog 103 #[.int .u32 a] w fun e w' => e = .returned (.tuple #[.int .i64 0, .int .i64 7]) ∧ w' = w := by
  go_enter Tryz.func103, Tryz.ntmps103
  go_wp2
  go_ret2
  exact ⟨rfl, rfl⟩
set_option maxRecDepth 100000 in
set_option maxHeartbeats 400000 in
theorem wpage_yes (a : Int) (w : World) (h0 : 0 ≤ a) (h1 : a < 32768) (h : LaidW w) : Calls Tryz.prog 103 #[.int .u32 a] w fun e w' => e = .returned (.tuple #[.int .i64 (a / 32), .int .i64 0]) ∧ ∃ n, w' = w.drewN n := by
  have e7 := take_7 a w h0 (by omega) h
  rw [show a / 32 % 1024 = a / 32 from by omega] at e7
  have E7 := Lib.hid e7
  clear e7 h
  go_enter Tryz.func103, Tryz.ntmps103
  go_wp2_with fail
  refine E7.out.mono ?_
  rintro e w1 ⟨rfl, n1, rfl⟩
  go_wp2
  go_ret2
  exact ⟨rfl, _, rfl⟩
end Go.Proofs.YtkenipanpimolaaGreatDoor
