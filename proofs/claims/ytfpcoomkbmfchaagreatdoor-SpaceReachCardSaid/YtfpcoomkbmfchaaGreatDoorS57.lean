/- Reach, by what is seen; a run of pages that come at once. Condition: the listed tables read as laid. -/
import Derived.Test.YtfpcoomkbmfchaaGreatDoorHX
namespace Go.Proofs.YtfpcoomkbmfchaaGreatDoor
open Go.RowKit Go.Maps
set_option maxRecDepth 100000

/-- The pages of a run, rising. -/
theorem pgL_span {m n : Nat} (h : m + n ≤ 1024) {b : Nat → Bool} (hb : ∀ p, p < 1024 → b p = decide (p ∈ span m n)) : pgL b = span m n := by
  unfold pgL
  rw [List.filter_congr (q := fun p => decide (p ∈ span m n)) fun p hp => hb p (List.mem_range.1 hp), List.range_eq_range', show 1024 = m + (n + (1024 - m - n)) by omega, ← List.range'_append_1, List.filter_append, ← List.range'_append_1, List.filter_append]
  have h1 : (List.range' 0 m).filter (fun p => decide (p ∈ span m n)) = [] := by
    rw [List.filter_eq_nil_iff]
    intro p hp
    rw [List.mem_range'_1] at hp
    rw [decide_eq_true_iff, span_mem]; omega
  have h2 : (List.range' (0 + m) n).filter (fun p => decide (p ∈ span m n)) = span m n := by
    rw [Nat.zero_add]
    refine List.filter_eq_self.2 fun p hp => ?_
    rw [decide_eq_true_iff]; exact hp
  have h3 : (List.range' (0 + m + n) (1024 - m - n)).filter (fun p => decide (p ∈ span m n)) = [] := by
    rw [List.filter_eq_nil_iff]
    intro p hp
    rw [List.mem_range'_1] at hp
    rw [decide_eq_true_iff, span_mem]; omega
  rw [h1, h2, h3]; simp
/-- What a call of Add on nothing says. -/
theorem addD_zero_new {x y : Int} {d : Bool} {M : List Ar} (h : AddD [] (x, y, d) 0 M) : FitD x y ∧ M = [(x, y, d)] := by
  have hf : FitD x y := by
    rcases h with ⟨_, h, _⟩ | ⟨hf, _⟩
    · cases h
    · exact hf.2
  exact ⟨hf, (addD_new hf h).2⟩
theorem may_one {x y : Int} {d wr : Bool} {L : List Nat} (h : mayL [(x, y, d)] wr L = 0) : ∀ p ∈ L, (x ≤ (p : Int) ∧ (p : Int) < x + y) ∧ (wr = true → d = true) := fun p hp => by
  obtain ⟨z, hz, hw⟩ := mayE_zero (mayL_at.1 h p hp)
  have e : atD [(x, y, d)] (p : Int) = if x ≤ (p : Int) ∧ (p : Int) < x + y then some d else none := rfl
  rw [e] at hz
  split at hz
  · rename_i hin
    obtain rfl := Option.some.inj hz
    exact ⟨hin, hw⟩
  · cases hz
theorem needP_zero {b : Nat → Bool} : ∀ {L : List Nat}, (∀ p ∈ L, b p = true) → needP b L = 0
  | [], _ => rfl
  | p :: r, h => by
    rw [needP, if_pos (h p (by simp)), bOn_id (h p (by simp)), needP_zero fun x hx => h x (by simp [hx])]
section
variable {W0 w : World} {I : SIx} {q : Nat} {Lb : List Nd} {G : Int → Option Pc} {pr : Int → Nat → Bool} {rd : Int → Nat → Nat → Int}
theorem Hv.reach (h : Hv W0 w I q Lb G pr rd) {i : Int} {s : Pc} (hG : G i = some s) (va : Int) (hva : 0 ≤ va ∧ va < 4294967296) (words : Nat) (h1 : 1 ≤ words) (h2 : words ≤ 1024) (wr : Bool) {er : Int} (her : reachP s.ar Lb (pr i) i va words wr = er) :
    Calls Tryz.prog 20 #[.pointer (some ⟨I.ss, 0, none⟩), .int .i64 i, .int .u32 va, .int .i64 (words : Int), .bool wr] w fun e w' => e = .returned (.int .i64 er) ∧ KeepB w w' ∧ (er ≠ 0 → Hv W0 w' I q Lb G pr rd) ∧ (er = 0 → va < 32768 ∧ Hv W0 w' I q (chargeL Lb i (needP (pr i) (pgs va words) : Int)) G (orP pr i (pgs va words)) rd) := by
  subst her
  obtain ⟨c, D, Q, V, k1, k2, k3⟩ := h
  obtain ⟨F, hD⟩ := k1.bl.hasD hG
  have hon : ∀ r, r < 1024 → onF F r = pr i r := fun r hr => by rw [← k2 i r hr, prD_some hD]
  have hA := (k1.bl.area hG).2
  refine (k1.reach_ hG hD va hva words h1 h2 wr).mono ?_
  rw [reachE_P hA hon]
  rintro e w' ⟨rfl, c', D', Q', V', Lb', hst, hk, hn, hz⟩
  refine ⟨rfl, hk, fun hne => ?_, fun h0 => ?_⟩
  · obtain ⟨rfl, rfl, rfl, rfl, rfl⟩ := hn hne
    exact ⟨_, _, _, _, hst, k2, k3⟩
  · obtain ⟨⟨hs, hlt⟩, rfl⟩ := hz h0
    rw [reachE_need hA hon h0] at hst
    refine ⟨hlt, _, _, _, _, hst, fun j r hr => ?_, fun j r y hr hy => ?_⟩
    · rw [hs.pr j r hr, k2 j r hr]; rfl
    · rw [hs.rd j r y hr hy]; exact k3 j r y hr hy
theorem Hv.reachBad (h : Hv W0 w I q Lb G pr rd) (i va words : Int) (hw : I64 words) (wr : Bool) (hG : ¬ (idB i = true ∧ (1 ≤ words ∧ words ≤ 1024) ∧ (G i).isSome = true)) :
    Calls Tryz.prog 20 #[.pointer (some ⟨I.ss, 0, none⟩), .int .i64 i, .int .u32 va, .int .i64 words, .bool wr] w fun e w' => (∃ er, er ≠ 0 ∧ e = .returned (.int .i64 er)) ∧ Hv W0 w' I q Lb G pr rd := by
  have h' := h
  obtain ⟨c, D, Q, V, k1, k2⟩ := h
  refine (k1.reachBad i va words hw wr hG).mono ?_
  rintro e w' ⟨he, hb⟩
  exact ⟨he, h'.step hb⟩
/-- What comes of a run that is reached where nothing was mapped. -/
theorem Hv.ran {u : Int} {x y : Int} {d wr : Bool} {s : Pc} {va : Int} {words : Nat} (hva : 0 ≤ va) (h1 : 1 ≤ words) (hs : s.ar = [(x, y, d)]) (hf : FitD x y) (hG : G 1 = some s)
    (h0 : reachP s.ar (oneL q u) (fun _ => false) 1 va words wr = 0) (h : Hv W0 w I q (chargeL (oneL q u) 1 (needP (fun _ => false) (pgs va words) : Int)) G (orP (fun _ _ => false) 1 (pgs va words)) rd) :
    ∃ m n u', pgs va words = span m n ∧ (m : Int) = va / 32 ∧ (va + words - 1) / 32 - va / 32 + 1 = (n : Int) ∧ m + n ≤ 1024 ∧ 1 ≤ n ∧ x ≤ m ∧ (m : Int) + n ≤ x + y ∧ (wr = true → d = true) ∧ (pgL fun p => orP (fun _ _ => false) 1 (pgs va words) 1 p) = span m n ∧ Hv W0 w I q (oneL q u') G (orP (fun _ _ => false) 1 (pgs va words)) rd ∧ u' = costP (orP (fun _ _ => false) 1 (pgs va words) 1) ∧ needP (orP (fun _ _ => false) 1 (pgs va words) 1) (pgs va words) = 0 ∧ reachP s.ar (oneL q u') (orP (fun _ _ => false) 1 (pgs va words) 1) 1 va words wr = 0 := by
  obtain ⟨u', hu⟩ := charge_one q u (needP (fun _ => false) (pgs va words) : Int)
  rw [hu] at h
  have hlt : ¬ 32768 ≤ va := fun h => by unfold reachP at h0; rw [if_pos h] at h0; cases h0
  have hm : mayL s.ar wr (pgs va words) = 0 := by
    unfold reachP at h0
    rw [if_neg hlt] at h0
    by_cases hm : mayL s.ar wr (pgs va words) = 0
    · exact hm
    · rw [if_pos hm] at h0; exact absurd h0 hm
  have hm' := hm
  rw [hs] at hm'
  have hma := may_one hm'
  have hf' := hf
  unfold FitD at hf'
  obtain ⟨m, hmm⟩ : ∃ m, m = (va / 32).toNat := ⟨_, rfl⟩
  obtain ⟨n, hnn⟩ : ∃ n, n = ((va % 32).toNat + words - 1) / 32 + 1 := ⟨_, rfl⟩
  have hp : pgs va words = span m n := by unfold pgs; rw [hmm, hnn]
  have hlo := hma m (by rw [hp, span_mem]; omega)
  have hhi := hma (m + n - 1) (by rw [hp, span_mem]; omega)
  have hle : m + n ≤ 1024 := by omega
  have hin : ∀ p ∈ pgs va words, orP (fun _ _ => false) 1 (pgs va words) 1 p = true := fun p hp => orP_in hp
  refine ⟨m, n, u', hp, by omega, by omega, hle, by omega, hlo.1.1, by omega, hlo.2, ?_, h, h.useOne hG, needP_zero hin, ?_⟩
  · refine pgL_span hle fun p hp' => ?_
    unfold orP
    rw [hp]; simp
  · unfold reachP
    rw [if_neg hlt, if_neg (fun h => h hm), needP_zero hin]
    exact h.zero hG
end
end Go.Proofs.YtfpcoomkbmfchaaGreatDoor
