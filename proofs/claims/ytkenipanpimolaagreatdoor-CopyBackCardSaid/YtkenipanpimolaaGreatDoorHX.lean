/- Texts of mine, joined: S51 S52 S53 S54 S57. What each says and under which conditions stands at its head, below. -/
import Derived.Test.YtkenipanpimolaaGreatDoorHV
import Derived.Test.YtkenipanpimolaaGreatDoorHN
import Derived.Test.YtkenipanpimolaaGreatDoorHM
import Derived.BigQuiet
/- What the laws' used tells. Condition: the listed tables read as laid. -/
namespace Go.Proofs.YtkenipanpimolaaGreatDoor
open Go.RowKit Go.Maps
set_option maxRecDepth 100000

/-- What a container uses. -/
def useI (L : List Nd) (i : Int) : Int := match atN i L with
  | none => 0
  | some n => n.2.2.2
section
variable {W0 w : World} {I : SIx} {q : Nat} {Lb : List Nd} {G : Int → Option Pc} {pr : Int → Nat → Bool} {rd : Int → Nat → Nat → Int}
end
end Go.Proofs.YtkenipanpimolaaGreatDoor

/- What pages cost, told by a list of them in order. Lists alone. -/
namespace Go.Proofs.YtkenipanpimolaaGreatDoor
set_option maxRecDepth 100000

/-- Is the page at a place the first one of its table? -/
def newK (L : List Nat) (k : Nat) : Bool := decide (k = 0) || decide (L.getD (k - 1) 0 / 32 ≠ L.getD k 0 / 32)
def upTo (b : Nat → Bool) (m : Nat) : List Nat := (List.range m).filter b
/-- Tables that have a page below one. -/
def hasQ (b : Nat → Bool) (m t : Nat) : Bool := (List.range m).any fun p => decide (p / 32 = t) && b p
end Go.Proofs.YtkenipanpimolaaGreatDoor

/- What the laws' cost tells. Condition: none but the row's own. -/
namespace Go.Proofs.YtkenipanpimolaaGreatDoor
open Go.RowKit Go.Maps
set_option maxRecDepth 100000

end Go.Proofs.YtkenipanpimolaaGreatDoor

/- The round of the law SpaceCost, in parts. Condition: the listed tables lie as laid. -/
namespace Go.Proofs.YtkenipanpimolaaGreatDoor
open Go.RowKit Go.Maps
set_option maxRecDepth 100000

section
variable {W0 w : World} {I : SIx} {q : Nat} {G : Int → Option Pc} {pr : Int → Nat → Bool} {rd : Int → Nat → Nat → Int}
end
end Go.Proofs.YtkenipanpimolaaGreatDoor

/- Reach, by what is seen; a run of pages that come at once. Condition: the listed tables read as laid. -/
namespace Go.Proofs.YtkenipanpimolaaGreatDoor
open Go.RowKit Go.Maps
set_option maxRecDepth 100000

section
variable {W0 w : World} {I : SIx} {q : Nat} {Lb : List Nd} {G : Int → Option Pc} {pr : Int → Nat → Bool} {rd : Int → Nat → Nat → Int}
theorem Hv.reach (h : Hv W0 w I q Lb G pr rd) {i : Int} {s : Pc} (hG : G i = some s) (va : Int) (hva : 0 ≤ va ∧ va < 4294967296) (words : Nat) (h1 : 1 ≤ words) (h2 : words ≤ 1024) (wr : Bool) {er : Int} (her : reachP s.ar Lb (pr i) i va words wr = er) :
    Calls Tryz.prog 26 #[.pointer (some ⟨I.ss, 0, none⟩), .int .i64 i, .int .u32 va, .int .i64 (words : Int), .bool wr] w fun e w' => e = .returned (.int .i64 er) ∧ KeepB w w' ∧ (er ≠ 0 → Hv W0 w' I q Lb G pr rd) ∧ (er = 0 → va < 32768 ∧ Hv W0 w' I q (chargeL Lb i (needP (pr i) (pgs va words) : Int)) G (orP pr i (pgs va words)) rd) := by
  subst her
  obtain ⟨c, D, Q, V, k1, k2, k3⟩ := h
  obtain ⟨F, hD⟩ := k1.bl.hasD hG
  have hon : ∀ r, r < 1024 → onF F r = pr i r := fun r hr => by rw [← k2 i r hr, prD_some hD]
  have hA := (k1.bl.area hG).2
  refine (k1.reach_ hG hD va hva words h1 h2 wr).mono ?_
  rw [reachE_P hA hon]
  rintro e w' ⟨rfl, c', D', Q', V', Lb', hst, hk, hn, hz⟩
  refine ⟨rfl, hk, fun hne => ?_, fun h0 => ?_⟩
  · obtain ⟨rfl, rfl, rfl, rfl, rfl⟩ := hn hne
    exact ⟨_, _, _, _, hst, k2, k3⟩
  · obtain ⟨⟨hs, hlt⟩, rfl⟩ := hz h0
    rw [reachE_need hA hon h0] at hst
    refine ⟨hlt, _, _, _, _, hst, fun j r hr => ?_, fun j r y hr hy => ?_⟩
    · rw [hs.pr j r hr, k2 j r hr]; rfl
    · rw [hs.rd j r y hr hy]; exact k3 j r y hr hy
end
end Go.Proofs.YtkenipanpimolaaGreatDoor
