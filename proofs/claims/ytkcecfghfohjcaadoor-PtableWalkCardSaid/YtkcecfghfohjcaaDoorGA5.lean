/- Texts of mine, joined: W5. What each says and under which conditions stands at its head, below. -/
import Derived.Test.YtkcecfghfohjcaaDoorGA
/- The contracts of Cut, Page and Address of package word, of the document's own Cut and Put. Conditions: the two tables read as laid. -/
namespace Go.Proofs.YtkcecfghfohjcaaDoor
open Go.RowKit
set_option maxRecDepth 100000

/-- What a call leaves that only reads, or makes memory. -/
theorem wbelow_drewN (w : World) (n : Nat) : Below w.heap.size w (w.drewN n) := ⟨rfl, rfl, rfl, Nat.le_refl _, fun _ _ => rfl⟩

set_option maxRecDepth 100000 in
set_option maxHeartbeats 400000 in
theorem cut_no (a : Int) (w : World) (h : 32768 ≤ a) : Calls Tryd.prog 71 #[.int .u32 a] w fun e w' => e = .returned (.tuple #[.int .i64 0, .int .i64 0, .int .i64 0, .int .i64 7]) ∧ w' = w := by
  go_enter Tryd.func71, Tryd.ntmps71
  go_wp2
  exact bodyPost_ret (v := .tuple #[.int .i64 0, .int .i64 0, .int .i64 0, .int .i64 7]) (by simp [results, Tryd.results71, go_sem]) rfl ⟨rfl, rfl⟩
set_option maxRecDepth 100000 in
set_option maxHeartbeats 400000 in
theorem cut_yes (a : Int) (w : World) (h0 : 0 ≤ a) (h1 : a < 32768) (h : LaidW w) : Calls Tryd.prog 71 #[.int .u32 a] w fun e w' => e = .returned (.tuple #[.int .i64 (a / 1024), .int .i64 (a / 32 % 32), .int .i64 (a % 32), .int .i64 0]) ∧ ∃ n, w' = w.drewN n := by
  have H := Lib.hid h
  clear h
  have E : Hid (a / 1024 % 32 = a / 1024) := Lib.hid (by omega)
  have e6 := take_6 a w h0 (by omega) H.out
  rw [E.out] at e6
  have E6 := Lib.hid e6
  clear e6
  go_enter Tryd.func71, Tryd.ntmps71
  go_wp2_with fail
  refine E6.out.mono ?_
  rintro e w1 ⟨rfl, n1, rfl⟩
  go_wp2_with fail
  refine (take_5 a _ h0 (by omega) (by exact H.out.of_cells (fun _ _ _ => rfl))).mono ?_
  rintro e w1 ⟨rfl, n2, rfl⟩
  go_wp2_with fail
  refine (take_4 a _ h0 (by omega) (by exact H.out.of_cells (fun _ _ _ => rfl))).mono ?_
  rintro e w1 ⟨rfl, n3, rfl⟩
  go_wp2
  exact bodyPost_ret (v := .tuple #[.int .i64 (a / 1024), .int .i64 (a / 32 % 32), .int .i64 (a % 32), .int .i64 0]) (by simp [results, Tryd.results71, go_sem]) rfl ⟨rfl, n1 + n2 + n3, by simp⟩
/-- Two fields of an address, side by side. -/
theorem or_place (p q : Int) (h0 : 0 ≤ p) (h1 : p < 1024) (k0 : 0 ≤ q) (k1 : q < 32) : bits BinOp.or IntKind.u32 (p * 32) q = p * 32 + q := by
  obtain ⟨A, rfl⟩ := Int.eq_ofNat_of_zero_le h0
  obtain ⟨B, rfl⟩ := Int.eq_ofNat_of_zero_le k0
  have e : ((A : Int) * 32) = ((A * 32 : Nat) : Int) := by omega
  rw [e, u32_or_nat (A * 32) B (by omega) (by omega)]
  have := Nat.two_pow_add_eq_or_of_lt (i := 5) (b := B) (by omega) A
  rw [Nat.mul_comm A 32, show (32 : Nat) = 2 ^ 5 from rfl, ← this]
  omega
end Go.Proofs.YtkcecfghfohjcaaDoor
