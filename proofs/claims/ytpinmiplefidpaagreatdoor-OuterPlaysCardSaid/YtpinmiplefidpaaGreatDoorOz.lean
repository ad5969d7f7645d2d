/- What a step leaves of a world: the ledger, what a renewed lease leaves as it is; what is refused. -/
import Derived.Test.YtpinmiplefidpaaGreatDoorOy
namespace Go.Proofs.YtpinmiplefidpaaGreatDoor
open Go.RowKit

section
variable {W : Wd} {k i g x y : Int}
theorem LS.Dk.renew_t (D : LS.Dk) (k i g x now : Int) : (D.renew k i g x now).t = D.t := by unfold LS.Dk.renew; split <;> rfl
theorem Wd.ren_all : (W.ren k i g x).all = W.all := by
  show W.F.all ++ W.P.all ++ LS.Dk.all (W.D.renew k i g x W.T) = W.F.all ++ W.P.all ++ W.D.all
  unfold LS.Dk.all
  rw [LS.Dk.renew_t]
theorem Wd.ren_here {a b c : Int} : (W.ren k i g x).Here a b c ↔ W.Here a b c := by
  show (W.F.chk a b c = 0 ∨ W.P.chk a b c = 0 ∨ LS.Dk.chk (W.D.renew k i g x W.T) a b c = 0) ↔ _
  unfold LS.Dk.chk
  rw [LS.Dk.renew_t]
  rfl
theorem Wd.acq_B : (W.acq k x).B = W.B := by
  unfold Wd.acq
  split
  · split
    · unfold Wd.got
      split
      · rfl
      · split <;> rfl
    · rfl
  · rfl
theorem Wd.rel_no (h : W.lE k i g y ≠ 0) : W.rel k i g y = W := if_neg h
theorem Wd.rel_B (h : W.lE k i g y = 0) : (W.rel k i g y).B = W.B ++ [W.att k i g y] := by
  unfold Wd.rel
  rw [if_pos h]
  split <;> rfl
theorem Wd.tick_B : (W.tick x).B = W.B := by unfold Wd.tick; split <;> rfl
theorem Wd.does_B (s : Sp) : (W.does s).B = W.B ∨ ((W.does s).B = W.B ++ [W.att s.o.k s.o.i s.o.g s.y] ∧ s.d = 1 ∧ W.lE s.o.k s.o.i s.o.g s.y = 0 ∧ W.does s = W.rel s.o.k s.o.i s.o.g s.y) := by
  unfold Wd.does
  split
  · exact .inl Wd.acq_B
  · split
    · by_cases h : W.lE s.o.k s.o.i s.o.g s.y = 0
      · exact .inr ⟨Wd.rel_B h, by assumption, h, rfl⟩
      · exact .inl (by rw [Wd.rel_no h])
    · split
      · exact .inl rfl
      · split
        · exact .inl Wd.tick_B
        · split <;> exact .inl rfl
theorem goes_B (S : Nat → Sp) (n : Nat) : (goes W S n).B.length ≤ W.B.length + n := by
  induction n with
  | zero => exact Nat.le_refl _
  | succ n ih =>
    rcases Wd.does_B (W := goes W S n) (S n) with e | ⟨e, _⟩
    · show ((goes W S n).does (S n)).B.length ≤ _
      rw [e]; omega
    · show ((goes W S n).does (S n)).B.length ≤ _
      rw [e, List.length_append]; simp; omega
theorem runs_B (S : Nat → Sp) (n : Nat) : (runs S n).B.length ≤ n := by
  have := goes_B (W := wfresh 1) S n
  have e : (wfresh 1).B.length = 0 := rfl
  unfold runs
  omega
/-! ### what is refused -/
theorem Wd.lE_arg (h : ¬ (Poss k i g ∧ 1 ≤ y ∧ y ≤ 3)) : W.lE k i g y = 2 := if_pos h
theorem Wd.lE_none (h : Poss k i g ∧ 1 ≤ y ∧ y ≤ 3) (h2 : ¬ W.Here k i g) : W.lE k i g y = 5 := by unfold Wd.lE; rw [if_neg (not_not_intro h), if_pos h2]
theorem Wd.lE_ok (h : Poss k i g ∧ 1 ≤ y ∧ y ≤ 3) (h2 : W.Here k i g) (h3 : W.B.length < 10000) : W.lE k i g y = 0 := by unfold Wd.lE; rw [if_neg (not_not_intro h), if_neg (not_not_intro h2), if_neg (by omega)]
theorem Wd.uE_arg (h : ¬ Poss k i g) : W.uE k i g = 2 ∧ W.nE k i g x = 2 := by
  have e : ∀ r, W.hE k i g r = 2 := fun r => if_pos fun c => h c.1
  refine ⟨e _, ?_⟩
  unfold Wd.nE
  rw [e, if_neg (by decide)]
theorem Wd.nE_arg (h : ¬ LS.IsSpan x) : W.nE k i g x = 2 := by
  have e : W.hE k i g (decide (LS.IsSpan x)) = 2 := if_pos fun c => h (of_decide_eq_true c.2)
  unfold Wd.nE
  rw [e, if_neg (by decide)]
theorem Wd.uE_state (h : Poss k i g) (hk : k ≠ 3) : W.uE k i g = 8 ∧ (LS.IsSpan x → W.nE k i g x = 8) := by
  have e : W.hE k i g true = 8 := by unfold Wd.hE; rw [if_neg (not_not_intro ⟨h, rfl⟩), if_pos hk]
  refine ⟨e, fun hx => ?_⟩
  unfold Wd.nE
  rw [decide_eq_true hx, e, if_neg (by decide)]
theorem Wd.uE_none (h : Poss k i g) (hk : k = 3) (hn : ¬ W.Here k i g) : W.uE k i g = 5 ∧ (LS.IsSpan x → W.nE k i g x = 5) := by
  have e : W.hE k i g true = 5 := by unfold Wd.hE; rw [if_neg (not_not_intro ⟨h, rfl⟩), if_neg (not_not_intro hk), if_pos hn]
  refine ⟨e, fun hx => ?_⟩
  unfold Wd.nE
  rw [decide_eq_true hx, e, if_neg (by decide)]
theorem Wd.uE_ok (h : Poss k i g) (hk : k = 3) (hn : W.Here k i g) : W.uE k i g = 0 := by
  unfold Wd.uE Wd.hE
  rw [if_neg (not_not_intro ⟨h, rfl⟩), if_neg (not_not_intro hk), if_neg (not_not_intro hn)]
end
end Go.Proofs.YtpinmiplefidpaaGreatDoor
