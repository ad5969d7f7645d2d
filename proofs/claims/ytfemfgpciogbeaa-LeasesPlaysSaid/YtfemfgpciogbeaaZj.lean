/- Both desks: Len, All, Copy. -/
import Derived.Test.YtfemfgpciogbeaaZi
namespace Go.Proofs.Ytfemfgpciogbeaa
open Go.RowKit

theorem pr_len (s : Option Dk) : ∃ N : Int, (∀ (w0 w : World) (pv qv : Value) (F : Nat → Prop), Pr w0 w pv qv s s F → Calls Try.prog 25 #[pv] w fun e w' => e = .returned (.int .i64 N) ∧ Below w.heap.size w w') ∧
    ∀ (w0 w : World) (pv qv : Value) (F : Nat → Prop), Pr w0 w pv qv s s F → Calls Try.prog 26 #[qv] w fun e w' => e = .returned (.int .i64 N) ∧ Below w.heap.size w w' := by
  cases s with
  | none =>
    refine ⟨0, fun w0 w pv qv F h => ?_, fun w0 w pv qv F h => ?_⟩
    all_goals
      rcases h with ⟨_, _, rfl, rfl, _⟩ | ⟨_, _, _, _, _, _, _, _, _, e, _⟩
    · exact (dlen_no none w (.inl rfl)).mono fun _ _ ⟨e, hb⟩ => ⟨e, by rw [hb]; exact Below.refl _ _⟩
    · cases e
    · exact (elen_nil w).mono fun _ _ ⟨e, hb⟩ => ⟨e, by rw [hb]; exact Below.refl _ _⟩
    · cases e
  | some D =>
    refine ⟨(D.t.held.length : Nat), fun w0 w pv qv F h => ?_, fun w0 w pv qv F h => ?_⟩
    all_goals
      rcases h with ⟨e, _⟩ | ⟨b, k, a, q, c, d, g, D1, D2, e1, e2, rfl, rfl, h1, h2, _⟩
    · cases e
    · injection e1 with e1
      subst e1
      exact dlen_ok b k a D w h1
    · cases e
    · injection e2 with e2
      subst e2
      exact elen_ok q c d g D w h2
theorem pr_all (s : Option Dk) : ∃ L : List Ro, L.length ≤ 256 ∧ (∀ (w0 w : World) (pv qv : Value) (F : Nat → Prop), Pr w0 w pv qv s s F → Calls Try.prog 28 #[pv] w fun e w' => ∃ p c, e = .returned (.slice p L.length c) ∧ Hid (RdO w' (.slice p L.length c) L) ∧ Hid (Below w.heap.size w w')) ∧
    ∀ (w0 w : World) (pv qv : Value) (F : Nat → Prop), Pr w0 w pv qv s s F → Calls Try.prog 29 #[qv] w fun e w' => ∃ p c, e = .returned (.slice p L.length c) ∧ Hid (RdO w' (.slice p L.length c) L) ∧ Hid (Below w.heap.size w w') := by
  cases s with
  | none =>
    refine ⟨[], by decide, fun w0 w pv qv F h => ?_, fun w0 w pv qv F h => ?_⟩
    all_goals
      rcases h with ⟨_, _, rfl, rfl, _⟩ | ⟨_, _, _, _, _, _, _, _, _, e, _⟩
    · exact (dall_no none w (.inl rfl)).mono fun _ _ ⟨e, hb⟩ => ⟨none, 0, e, RdO.of_own (b := 0) (World.ownsRow_nil _ _ _ _), by rw [hb]; exact Below.refl _ _⟩
    · cases e
    · exact (eall_nil w).mono fun _ _ ⟨e, hb⟩ => ⟨none, 0, e, RdO.of_own (b := 0) (World.ownsRow_nil _ _ _ _), by rw [hb]; exact Below.refl _ _⟩
    · cases e
  | some D =>
    by_cases hl : D.all.length ≤ 256
    · refine ⟨D.all, hl, fun w0 w pv qv F h => ?_, fun w0 w pv qv F h => ?_⟩
      all_goals
        rcases h with ⟨e, _⟩ | ⟨b, k, a, q, c, d, g, D1, D2, e1, e2, rfl, rfl, h1, h2, _⟩
      · cases e
      · injection e1 with e1
        subst e1
        exact (dall_ok b k a D w h1).mono fun _ _ ⟨p, c, e, k1, k2⟩ => ⟨p, c, e, RdO.of_own k1, k2⟩
      · cases e
      · injection e2 with e2
        subst e2
        exact (eall_ok q c d g D w h2).mono fun _ _ ⟨p, c, e, k1, k2⟩ => ⟨p, c, e, RdO.of_own k1, k2⟩
    · refine ⟨[], by decide, fun w0 w pv qv F h => ?_, fun w0 w pv qv F h => ?_⟩
      all_goals
        exfalso
        rcases h with ⟨e, _⟩ | ⟨b, k, a, q, c, d, g, D1, D2, e1, e2, rfl, rfl, h1, h2, _⟩
        · cases e
        · injection e1 with e1
          subst e1
          exact hl (by rw [Dk.all_len]; exact Tb.held_len D.t h1.ok.t)
/-- The program's desk copied, the document's not yet. -/
def Cp (w0 w : World) (pv qv : Value) (s : Option Dk) (F : Nat → Prop) (X : Nat) (cX : Array Value) (pv' : Value) : Prop :=
  Pr w0 w pv qv s s F ∧ Below w0.heap.size w0 w ∧ Bk w X 35 cX ∧ ((s = none ∧ pv' = .pointer none) ∨ ∃ b k a D, s = some D ∧ pv' = .pointer (some ⟨b, 0, none⟩) ∧ DkW w b k a D ∧ ∀ z, DFoot b k a z → w0.heap.size ≤ z ∧ ¬ F z)
section
variable {w0 w : World} {pv qv u v : Value} {s o : Option Dk} {F G : Nat → Prop} {X : Nat} {cX : Array Value}
theorem p_copy (h : Im w0 w pv qv s s F u v o G X cX) : Calls Try.prog 23 #[pv] w fun e w' => ∃ pv', e = .returned pv' ∧ Hid (Cp w0 w' pv qv s F X cX pv') := by
  cases s with
  | none =>
    obtain ⟨rfl, rfl⟩ := h.nilp
    refine (dcopy_no none w (.inl rfl)).mono ?_
    rintro e w' ⟨rfl, rfl⟩
    exact ⟨_, rfl, h.cur, h.bel, h.bX, .inl ⟨rfl, rfl⟩⟩
  | some D =>
    obtain ⟨b, k, a, rfl, h1, _⟩ := h.prog
    refine (dcopy_ok b k a D w h1).mono ?_
    rintro e w' ⟨b', rfl, k', a', k1, k2, k3⟩
    exact ⟨_, rfl, h.cur.below k3, bel2 h.bel k3, h.bX.below k3, .inr ⟨b', k', a', D, rfl, rfl, k1, fun z hz => ⟨Nat.le_trans h.bel.size (k2 z hz), fun hf => by have := h.cur.lt z hf; have := k2 z hz; omega⟩⟩⟩
theorem d_copy {pv' : Value} (h : Cp w0 w pv qv s F X cX pv') : Calls Try.prog 24 #[qv] w fun e w' => ∃ qv', e = .returned qv' ∧ Hid (∃ F', Im w0 w' pv' qv' s s F' pv qv s F X cX) := by
  obtain ⟨h1, h2, h3, h4⟩ := h
  rcases h4 with ⟨rfl, rfl⟩ | ⟨b, k, a, D, rfl, rfl, k1, k2⟩
  · have hq : qv = .pointer none := by
      rcases h1 with ⟨_, _, _, e, _⟩ | ⟨_, _, _, _, _, _, _, _, _, e, _⟩
      · exact e
      · cases e
    subst hq
    refine (ecopy_nil w).mono ?_
    rintro e w' ⟨rfl, rfl⟩
    exact ⟨_, rfl, fun _ => False, .inl ⟨rfl, rfl, rfl, rfl, fun _ h => h⟩, h1, fun _ h => absurd h id, h2, h3⟩
  · have h1' := h1
    rcases h1 with ⟨e, _⟩ | ⟨_, _, _, q, c, d, g, D1, D2, e1, e2, _, rfl, _, hq, _⟩
    · cases e
    · injection e2 with e2
      subst e2
      refine (ecopy_ok q c d g D w hq).mono ?_
      rintro e w' ⟨q', rfl, hn⟩
      obtain ⟨c', d', g', m1, m2, m3⟩ := hn.out
      refine ⟨_, rfl, fun z => DFoot b k a z ∨ QFt q' c' d' g' z, .inr ⟨b, k, a, q', c', d', g', D, D, rfl, rfl, rfl, rfl, k1.below m3, m1, fun _ => Iff.rfl, ?_⟩, h1'.below m3, ?_, bel2 h2 m3, h3.below m3⟩
      · rintro z (hz | hz)
        · exact (k2 z hz).1
        · exact Nat.le_trans h2.size (m2 z hz)
      · rintro z (hz | hz)
        · exact (k2 z hz).2
        · intro hf
          have := h1'.lt z hf
          have := m2 z hz
          omega
end
end Go.Proofs.Ytfemfgpciogbeaa
