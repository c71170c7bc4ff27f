/- What the walk of ChansPlays keeps, and its play: channels, and the document's. Conditions: named in the theorems. -/
import Derived.Test.YtnapodeiigkebaaH32
import Derived.Test.YtnapodeiigkebaaH14
namespace Go.Proofs.Ytnapodeiigkebaa
open Go.RowKit
set_option maxRecDepth 100000

theorem RVar.more {W w : World} {xb T T' : Nat} {H : List Row} {cv : Value} {Q : Msgs} (h : RVar W w xb H cv T Q) (hT : T ≤ T') : RVar W w xb H cv T' Q :=
  ⟨let ⟨lv, lvs, out, h1, h2⟩ := h.st; ⟨lv, lvs, out, h1, ⟨h2.bel, h2.rows, h2.own, h2.ls, h2.nums, fun i => Nat.le_trans (h2.outs i) hT, h2.few⟩⟩, h.lo⟩
/-- Channels of a law's own, the document's, and a configuration, in variables. -/
structure PySt (W w : World) (v1 v2 v3 : Value) (C : Cf) (X : ChX) (rb T : Nat) (Q : Msgs) : Prop where
  x : ∃ ff L, OwnH W w X ff L Q
  r : RVar W w rb C.2.2 v3 T Q
  box : CBox w W.heap.size v1 v2 v3
  cf : CfAt W v1 v2 v3 C
section
variable {W w w' : World} {v1 v2 v3 : Value} {C : Cf} {X : ChX} {rb T : Nat} {Q : Msgs}
theorem PySt.below (h : PySt W w v1 v2 v3 C X rb T Q) : Below W.heap.size W w := let ⟨_, _, h1⟩ := h.x; h1.below
theorem PySt.step (h : PySt W w v1 v2 v3 C X rb T Q) (hb : Below w.heap.size w w') : PySt W w' v1 v2 v3 C X rb T Q := ⟨let ⟨f, L, h1⟩ := h.x; ⟨f, L, h1.step hb⟩, h.r.below hb, h.box.below hb, h.cf⟩
/-- Both have had a call: first the program's channels, then the document's. -/
theorem PySt.both {w1 : World} {ff : Nat → Nat} {L : List Int} {Q' : Msgs} {T' : Nat} (h : PySt W w v1 v2 v3 C X rb T Q) (o : OwnH W w1 X ff L Q') (ho : Only w w1 X.own) (hr : ∀ V, RVar W V rb C.2.2 v3 T Q → V = w1 → RVar W w' rb C.2.2 v3 T' Q' ∧ Only w1 w' (fun j => j = rb)) : PySt W w' v1 v2 v3 C X rb T' Q' := by
  obtain ⟨f, M, h1⟩ := h.x
  obtain ⟨lv, lvs, out, hx, R⟩ := h.r.st
  have hx1 := h1.st.keepBox ho hx (by decide) (by decide) (by decide)
  have R1 : RChAt W w1 C.2.2 v3 lv lvs out T Q := R.only ho h1.st.otherG (fun k hk e => by
    obtain ⟨⟨cs, hcs⟩, -⟩ := R.block hk
    exact h1.st.other hcs (by decide) (by decide) (by decide) e) h1.new
  obtain ⟨r2, on⟩ := hr w1 ⟨⟨lv, lvs, out, hx1, R1⟩, h.r.lo⟩ rfl
  have far : FarH w1 (fun j => j = rb) := fun k e => e ▸ ⟨_, _, hx1, by decide, by decide, by decide, by decide, by decide, by decide, by decide⟩
  have b1 := h1.st.keepBox ho h.box (by decide) (by decide) (by decide)
  exact ⟨⟨ff, L, o.keepG on far (fun k e => e ▸ h.r.lo)⟩, r2, on.kept b1 (far.not b1 (by simp)), h.cf⟩
theorem PySt.rest (h : PySt W w v1 v2 v3 C X rb T Q) {w1 : World} (ho : Only w w1 X.own) : RVar W w1 rb C.2.2 v3 T Q := by
  obtain ⟨f, M, h1⟩ := h.x
  obtain ⟨lv, lvs, out, hx, R⟩ := h.r.st
  exact ⟨⟨lv, lvs, out, h1.st.keepBox ho hx (by decide) (by decide) (by decide), R.only ho h1.st.otherG (fun k hk e => by
    obtain ⟨⟨cs, hcs⟩, -⟩ := R.block hk
    exact h1.st.other hcs (by decide) (by decide) (by decide) e) h1.new⟩, h.r.lo⟩
/-- Between the two calls, and behind both. -/
theorem PySt.send (h : PySt W w v1 v2 v3 C X rb T Q) (hX : X.H = C.2.2) (hT : T < 300) (part ch : Int) (M : List Int) (a : Option Addr) (cl : Nat) (hM : RowAt W (.slice a M.length cl) M) (hw : ∀ x ∈ M, 0 ≤ x ∧ x ≤ 4294967295) : ∃ er,
    Calls Try.prog 22 #[.pointer (some ⟨X.xb, 0, none⟩), .int .i64 part, .int .i64 ch, .slice a M.length cl] w fun e w1 => e = .returned (.int .i64 er) ∧ Only w w1 X.own ∧
      Calls Try.prog 35 #[.pointer (some ⟨rb, 0, none⟩), .int .i64 part, .int .i64 ch, .slice a M.length cl] w1 fun e w' => e = .returned (.int .i64 er) ∧ Only w1 w' (fun j => j = rb) ∧ PySt W w' v1 v2 v3 C X rb (T + 1) (sendQ C.2.2 Q part ch M) := by
  obtain ⟨f, L, h1⟩ := h.x
  refine ⟨sendE C.2.2 Q part ch M.length, (h1.send part ch M a cl (hM.below h1.below) (fun x hx => by have := hw x hx; omega) (er := sendE C.2.2 Q part ch M.length) (Q' := sendQ C.2.2 Q part ch M) (by rw [hX]) (by rw [hX])).mono fun e w1 ⟨e1, L', o, ho, _⟩ => ⟨e1, ho, ?_⟩⟩
  exact ((h.rest ho).send (Nat.le_of_lt hT) part ch M a cl hM rfl rfl).mono fun e w' ⟨e2, r2, on⟩ => ⟨e2, on, h.both o ho (fun _ _ _ => ⟨r2.more (Nat.le_succ T), on⟩)⟩
theorem PySt.recv (h : PySt W w v1 v2 v3 C X rb T Q) (hX : X.H = C.2.2) (hT : T < 300) (part ch : Int) : ∃ er M, M.length ≤ 8 ∧
    Calls Try.prog 23 #[.pointer (some ⟨X.xb, 0, none⟩), .int .i64 part, .int .i64 ch] w fun e w1 => ∃ u, e = .returned (.tuple #[u, .int .i64 er]) ∧ MsgN w1 u M ∧ Only w w1 X.own ∧
      Calls Try.prog 36 #[.pointer (some ⟨rb, 0, none⟩), .int .i64 part, .int .i64 ch] w1 fun e w' => ∃ u', e = .returned (.tuple #[u', .int .i64 er]) ∧ MsgN w' u' M ∧ MsgN w' u M ∧ Only w1 w' (fun j => j = rb) ∧ PySt W w' v1 v2 v3 C X rb (T + 1) (recvQ C.2.2 Q part ch) := by
  obtain ⟨f, L, h1⟩ := h.x
  have h8 := h1.st.headLen part ch
  rw [hX] at h8
  refine ⟨recvE C.2.2 Q part ch, recvM C.2.2 Q part ch, h8, (h1.recv part ch (er := recvE C.2.2 Q part ch) (M := recvM C.2.2 Q part ch) (Q' := recvQ C.2.2 Q part ch) (by rw [hX]) (by rw [hX]) (by rw [hX])).mono fun e w1 ⟨u, f', e1, hm, o, ho⟩ => ⟨u, e1, hm, ho, ?_⟩⟩
  have r1 := h.rest ho
  exact (r1.recv hT part ch rfl rfl rfl).mono fun e w' ⟨u', e2, hm', r2, on⟩ => ⟨u', e2, hm', hm.only on (fun k e => e ▸ r1.other), on, h.both o ho (fun _ _ _ => ⟨r2, on⟩)⟩
theorem PySt.next (hX : X.H = C.2.2) (part ch : Int) : ∃ er n, (∀ V, PySt W V v1 v2 v3 C X rb T Q → Calls Try.prog 28 #[.pointer (some ⟨X.xb, 0, none⟩), .int .i64 part, .int .i64 ch] V fun e w' => e = .returned (.tuple #[.int .i64 n, .int .i64 er]) ∧ Below V.heap.size V w') ∧
    ∀ V lv, PySt W V v1 v2 v3 C X rb T Q → V.heap[rb]? = some (.cells #[v3, lv] 41 (0, 0)) → Calls Try.prog 37 #[.agg #[v3, lv], .int .i64 part, .int .i64 ch] V fun e w' => e = .returned (.tuple #[.int .i64 n, .int .i64 er]) ∧ Below V.heap.size V w' := by
  refine ⟨recvE C.2.2 Q part ch, ((recvM C.2.2 Q part ch).length : Int), fun V hV => ?_, fun V lv hV hx => ?_⟩
  · obtain ⟨f, L, h1⟩ := hV.x
    exact (h1.next part ch (by rw [hX]) (by rw [hX])).mono fun e w' ⟨e1, _, hb⟩ => ⟨e1, hb⟩
  · obtain ⟨lv', lvs, out, hx', R⟩ := hV.r.st
    rw [hx] at hx'
    simp only [Option.some.injEq, Obj.cells.injEq] at hx'
    obtain rfl : lv = lv' := by simpa using hx'.1
    exact rnextH_ok R part ch
theorem PySt.may (hX : X.H = C.2.2) (part ch : Int) (s : Bool) : ∃ er, (∀ V, PySt W V v1 v2 v3 C X rb T Q → Calls Try.prog 16 #[.pointer (some ⟨X.xb, 0, none⟩), .int .i64 part, .int .i64 ch, .bool s] V fun e w' => e = .returned (.int .i64 er) ∧ Below V.heap.size V w') ∧
    ∀ V lv, PySt W V v1 v2 v3 C X rb T Q → V.heap[rb]? = some (.cells #[v3, lv] 41 (0, 0)) → Calls Try.prog 17 #[.agg #[v3, lv], .int .i64 part, .int .i64 ch, .bool s] V fun e w' => e = .returned (.int .i64 er) ∧ Below V.heap.size V w' := by
  refine ⟨mayE C.2.2 part ch s, fun V hV => ?_, fun V lv hV hx => ?_⟩
  · obtain ⟨f, L, h1⟩ := hV.x
    exact (h1.may part ch s (by rw [hX])).mono fun e w' ⟨e1, _, hb⟩ => ⟨e1, hb⟩
  · obtain ⟨lv', lvs, out, hx', R⟩ := hV.r.st
    rw [hx] at hx'
    simp only [Option.some.injEq, Obj.cells.injEq] at hx'
    obtain rfl : lv = lv' := by simpa using hx'.1
    exact rmayH_ok R part ch s
theorem PySt.room (hX : X.H = C.2.2) (ch : Int) : ∃ n, (∀ V, PySt W V v1 v2 v3 C X rb T Q → Calls Try.prog 18 #[.pointer (some ⟨X.xb, 0, none⟩), .int .i64 ch] V fun e w' => e = .returned (.int .i64 n) ∧ Below V.heap.size V w') ∧
    ∀ V lv, PySt W V v1 v2 v3 C X rb T Q → V.heap[rb]? = some (.cells #[v3, lv] 41 (0, 0)) → Calls Try.prog 19 #[.agg #[v3, lv], .int .i64 ch] V fun e w' => e = .returned (.int .i64 n) ∧ Below V.heap.size V w' := by
  refine ⟨roomN C.2.2 Q ch, fun V hV => ?_, fun V lv hV hx => ?_⟩
  · obtain ⟨f, L, h1⟩ := hV.x
    exact (h1.room ch (by rw [hX])).mono fun e w' ⟨e1, _, hb⟩ => ⟨e1, hb⟩
  · obtain ⟨lv', lvs, out, hx', R⟩ := hV.r.st
    rw [hx] at hx'
    simp only [Option.some.injEq, Obj.cells.injEq] at hx'
    obtain rfl : lv = lv' := by simpa using hx'.1
    exact rroomH_ok R ch
end
end Go.Proofs.Ytnapodeiigkebaa
