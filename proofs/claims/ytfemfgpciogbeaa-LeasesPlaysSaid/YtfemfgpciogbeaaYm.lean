/- Plain mathematics of desks of leases: the slots, the times by the ids, what each call says and makes of a desk. -/
import Derived.Test.YtfemfgpciogbeaaSm
namespace Go.Proofs.Ytfemfgpciogbeaa

/-- A desk: the table of its slots, and up to when each id was granted last. -/
structure Dk where
  t : Tb
  u : Nat → Nat
structure Dk.Ok (D : Dk) : Prop where
  t : D.t.Ok
  hi : D.t.n ≤ 64
  u : ∀ i, D.u i ≤ 1099511627776
def IsSpan (x : Int) : Prop := 1 ≤ x ∧ x ≤ 1048576
def IsTime (x : Int) : Prop := 0 ≤ x ∧ x ≤ 1099511627776
def IsLease (k i g : Int) : Prop := k = 3 ∧ 0 ≤ i ∧ i < 64 ∧ g ≠ 0
instance (x : Int) : Decidable (IsSpan x) := inferInstanceAs (Decidable (_ ∧ _))
instance (x : Int) : Decidable (IsTime x) := inferInstanceAs (Decidable (_ ∧ _))
instance (k i g : Int) : Decidable (IsLease k i g) := inferInstanceAs (Decidable (_ ∧ _))
def dfresh (n g : Nat) : Dk := ⟨fresh n g, fun _ => 0⟩
/-- What is said of a resource. -/
def Dk.chk (D : Dk) (k i g : Int) : Int := if IsLease k i g then D.t.chk i g else 2
/-- The lease with the id i is granted until y. -/
def Dk.until (D : Dk) (i y : Nat) : Dk := ⟨D.t, put D.u i y⟩
/-- What Grant answers, and what it makes of a desk. -/
def Dk.gE (D : Dk) (x now : Int) : Int := if IsSpan x ∧ IsTime now then (if now + x ≤ 1099511627776 then (match D.t.free with | [] => 4 | _ :: _ => 0) else 17) else 2
def Dk.gK (D : Dk) (x now : Int) : Nat := if D.gE x now = 0 then 3 else 0
def Dk.gI (D : Dk) (x now : Int) : Nat := if D.gE x now = 0 then (match D.t.free with | [] => 0 | i :: _ => i) else 0
def Dk.gG (D : Dk) (x now : Int) : Nat := if D.gE x now = 0 then (match D.t.free with | [] => 0 | i :: _ => D.t.g i) else 0
def Dk.took (D : Dk) (i y : Nat) : Dk := ⟨D.t.took i, put D.u i y⟩
def Dk.grant (D : Dk) (x now : Int) : Dk := if D.gE x now = 0 then (match D.t.free with | [] => D | i :: _ => D.took i (now + x).toNat) else D
/-- What Renew answers, and what it makes of a desk. -/
def Dk.rE (D : Dk) (k i g x now : Int) : Int :=
  if IsLease k i g ∧ IsSpan x ∧ IsTime now then (if D.t.chk i g = 0 then (if (D.u i.toNat : Int) ≤ now then 8 else if now + x ≤ 1099511627776 then 0 else 17) else D.t.chk i g) else 2
def Dk.renew (D : Dk) (k i g x now : Int) : Dk := if D.rE k i g x now = 0 then D.until i.toNat (now + x).toNat else D
def Dk.give (D : Dk) (i : Nat) : Dk := ⟨D.t.gave i, D.u⟩
def Dk.ret (D : Dk) (k i g : Int) : Dk := if D.chk k i g = 0 then D.give i.toNat else D
def Dk.til (D : Dk) (k i g : Int) : Nat := if D.chk k i g = 0 then D.u i.toNat else 0
def Dk.oE (D : Dk) (k i g now : Int) : Int := if IsTime now then D.chk k i g else 2
def Dk.ovr (D : Dk) (k i g now : Int) : Bool := if D.oE k i g now = 0 then decide ((D.u i.toNat : Int) ≤ now) else false

theorem dfresh_ok {n g : Nat} (h1 : 1 ≤ n) (h2 : n ≤ 64) (h3 : 1 ≤ g) (h4 : g ≤ 4294967295) : (dfresh n g).Ok := ⟨fresh_ok h1 (by omega) h3 h4, h2, fun _ => Nat.zero_le _⟩
theorem Dk.Ok.until {D : Dk} (h : D.Ok) (i : Nat) {y : Nat} (hy : y ≤ 1099511627776) : (D.until i y).Ok :=
  ⟨h.t, h.hi, fun k => by have := h.u k; simp only [Dk.until, put]; split <;> omega⟩
theorem Dk.Ok.took {D : Dk} (h : D.Ok) (i : Nat) {y : Nat} (hy : y ≤ 1099511627776) : (D.took i y).Ok :=
  ⟨h.t.took i, h.hi, fun k => by have := h.u k; simp only [Dk.took, put]; split <;> omega⟩
theorem Dk.Ok.give {D : Dk} (h : D.Ok) (i : Nat) : (D.give i).Ok := ⟨h.t.gave i, by simp only [Dk.give, Tb.gave_n]; exact h.hi, h.u⟩
theorem Dk.give_n (D : Dk) (i : Nat) : (D.give i).t.n = D.t.n := D.t.gave_n i
theorem Dk.Ok.ret {D : Dk} (h : D.Ok) (k i g : Int) : (D.ret k i g).Ok := by unfold Dk.ret; split; exact h.give _; exact h
theorem Dk.ret_n (D : Dk) (k i g : Int) : (D.ret k i g).t.n = D.t.n := by unfold Dk.ret; split; exact D.give_n _; rfl
theorem Dk.renew_n (D : Dk) (k i g x now : Int) : (D.renew k i g x now).t.n = D.t.n := by unfold Dk.renew; split <;> rfl
theorem Dk.grant_n (D : Dk) (x now : Int) : (D.grant x now).t.n = D.t.n := by
  unfold Dk.grant; split
  · split <;> rfl
  · rfl
theorem Dk.Ok.held_len {D : Dk} (h : D.Ok) : D.t.held.length ≤ 64 := by have := sel_len D.t.s 1 D.t.n; have := h.hi; unfold Tb.held; omega

/-! ### the cases of Grant -/
theorem Dk.gE_arg {D : Dk} {x now : Int} (h : ¬ (IsSpan x ∧ IsTime now)) : D.gE x now = 2 := if_neg h
theorem Dk.gE_over {D : Dk} {x now : Int} (h1 : IsSpan x) (h2 : IsTime now) (h3 : 1099511627776 < now + x) : D.gE x now = 17 := by
  unfold Dk.gE; rw [if_pos ⟨h1, h2⟩, if_neg (by omega)]
theorem Dk.gE_full {D : Dk} {x now : Int} (h1 : IsSpan x) (h2 : IsTime now) (h3 : now + x ≤ 1099511627776) (h4 : D.t.free = []) : D.gE x now = 4 := by
  unfold Dk.gE; rw [if_pos ⟨h1, h2⟩, if_pos h3, h4]
theorem Dk.gE_ok {D : Dk} {x now : Int} (h1 : IsSpan x) (h2 : IsTime now) (h3 : now + x ≤ 1099511627776) {i : Nat} {r : List Nat} (h4 : D.t.free = i :: r) : D.gE x now = 0 := by
  unfold Dk.gE; rw [if_pos ⟨h1, h2⟩, if_pos h3, h4]
theorem Dk.grant_ne {D : Dk} {x now : Int} (h : D.gE x now ≠ 0) : D.grant x now = D ∧ D.gK x now = 0 ∧ D.gI x now = 0 ∧ D.gG x now = 0 := ⟨if_neg h, if_neg h, if_neg h, if_neg h⟩
theorem Dk.grant_zero {D : Dk} {x now : Int} (h : D.gE x now = 0) {i : Nat} {r : List Nat} (h4 : D.t.free = i :: r) : D.grant x now = D.took i (now + x).toNat ∧ D.gK x now = 3 ∧ D.gI x now = i ∧ D.gG x now = D.t.g i := by
  unfold Dk.grant Dk.gK Dk.gI Dk.gG
  rw [if_pos h, if_pos h, if_pos h, if_pos h, h4]
  exact ⟨rfl, rfl, rfl, rfl⟩
theorem Dk.g_cases (D : Dk) (x now : Int) : (¬ (IsSpan x ∧ IsTime now) ∧ D.gE x now = 2) ∨ (IsSpan x ∧ IsTime now ∧ 1099511627776 < now + x ∧ D.gE x now = 17) ∨ (IsSpan x ∧ IsTime now ∧ now + x ≤ 1099511627776 ∧ D.t.free = [] ∧ D.gE x now = 4) ∨ (IsSpan x ∧ IsTime now ∧ now + x ≤ 1099511627776 ∧ ∃ i r, D.t.free = i :: r ∧ D.gE x now = 0) := by
  by_cases h : IsSpan x ∧ IsTime now
  · by_cases h3 : now + x ≤ 1099511627776
    · cases h4 : D.t.free with
      | nil => exact .inr (.inr (.inl ⟨h.1, h.2, h3, rfl, Dk.gE_full h.1 h.2 h3 h4⟩))
      | cons i r => exact .inr (.inr (.inr ⟨h.1, h.2, h3, i, r, rfl, Dk.gE_ok h.1 h.2 h3 h4⟩))
    · exact .inr (.inl ⟨h.1, h.2, by omega, Dk.gE_over h.1 h.2 (by omega)⟩)
  · exact .inl ⟨h, Dk.gE_arg h⟩
theorem Dk.Ok.grant {D : Dk} (h : D.Ok) (x now : Int) : (D.grant x now).Ok := by
  rcases D.g_cases x now with ⟨_, e⟩ | ⟨_, _, _, e⟩ | ⟨_, _, _, _, e⟩ | ⟨_, _, h3, i, r, h4, e⟩
  · rw [(Dk.grant_ne (by omega)).1]; exact h
  · rw [(Dk.grant_ne (by omega)).1]; exact h
  · rw [(Dk.grant_ne (by omega)).1]; exact h
  · rw [(Dk.grant_zero e h4).1]; exact h.took i (by omega)

/-! ### a resource that is a lease, or is not -/
theorem Dk.chk_zero {D : Dk} {k i g : Int} (h : D.chk k i g = 0) : IsLease k i g ∧ D.t.chk i g = 0 := by
  unfold Dk.chk at h
  split at h
  · rename_i h1; exact ⟨h1, h⟩
  · omega
theorem Dk.chk_is {D : Dk} {k i g : Int} (h : D.chk k i g = 0) : k = 3 ∧ ∃ j : Nat, i = j ∧ j < D.t.n ∧ D.t.s j = 1 ∧ g = D.t.g j := by
  obtain ⟨⟨h1, _⟩, h2⟩ := Dk.chk_zero h
  obtain ⟨h3, h4, h5, h6⟩ := Tb.chk_zero h2
  exact ⟨h1, i.toNat, by omega, by omega, h5, h6.symm⟩
theorem Dk.Ok.lease {D : Dk} (h : D.Ok) {i : Nat} (h1 : i < D.t.n) : IsLease 3 i (D.t.g i) := by
  have := h.hi
  have := h.t.g1 i h1
  exact ⟨rfl, by omega, by omega, by omega⟩
theorem Dk.Ok.chk_held {D : Dk} (h : D.Ok) {i : Nat} (h1 : i < D.t.n) (h2 : D.t.s i = 1) : D.chk 3 i (D.t.g i) = 0 := by
  unfold Dk.chk
  rw [if_pos (h.lease h1), Tb.chk_held h1 h2]
theorem Dk.chk_cases (D : Dk) (k i g : Int) : (¬ IsLease k i g ∧ D.chk k i g = 2) ∨ (IsLease k i g ∧ D.chk k i g = D.t.chk i g) := by
  unfold Dk.chk
  by_cases h : IsLease k i g
  · exact .inr ⟨h, if_pos h⟩
  · exact .inl ⟨h, if_neg h⟩

/-! ### the cases of Renew -/
theorem Dk.rE_arg {D : Dk} {k i g x now : Int} (h : ¬ (IsSpan x ∧ IsTime now)) : D.rE k i g x now = 2 := if_neg fun e => h e.2
theorem Dk.rE_chk {D : Dk} {k i g x now : Int} (h1 : IsSpan x) (h2 : IsTime now) (h : D.chk k i g ≠ 0) : D.rE k i g x now = D.chk k i g := by
  unfold Dk.rE
  unfold Dk.chk at h ⊢
  by_cases e : IsLease k i g
  · rw [if_pos e] at h ⊢
    rw [if_pos ⟨e, h1, h2⟩, if_neg h]
  · rw [if_neg e, if_neg fun c => e c.1]
theorem Dk.rE_held {D : Dk} {k i g x now : Int} (h1 : IsSpan x) (h2 : IsTime now) (h : D.chk k i g = 0) : D.rE k i g x now = if (D.u i.toNat : Int) ≤ now then 8 else if now + x ≤ 1099511627776 then 0 else 17 := by
  obtain ⟨h3, h4⟩ := Dk.chk_zero h
  unfold Dk.rE
  rw [if_pos ⟨h3, h1, h2⟩, if_pos h4]
theorem Dk.renew_ne {D : Dk} {k i g x now : Int} (h : D.rE k i g x now ≠ 0) : D.renew k i g x now = D := if_neg h
theorem Dk.rE_zero {D : Dk} {k i g x now : Int} (h : D.rE k i g x now = 0) : D.chk k i g = 0 ∧ IsSpan x ∧ IsTime now ∧ now < D.u i.toNat ∧ now + x ≤ 1099511627776 := by
  by_cases h1 : IsSpan x ∧ IsTime now
  · by_cases h2 : D.chk k i g = 0
    · rw [Dk.rE_held h1.1 h1.2 h2] at h
      split at h
      · omega
      · split at h
        · exact ⟨h2, h1.1, h1.2, by omega, by omega⟩
        · omega
    · rw [Dk.rE_chk h1.1 h1.2 h2] at h; exact absurd h h2
  · rw [Dk.rE_arg h1] at h; omega
theorem Dk.Ok.renew {D : Dk} (h : D.Ok) (k i g x now : Int) : (D.renew k i g x now).Ok := by
  by_cases e : D.rE k i g x now = 0
  · have := (Dk.rE_zero e).2.2.2.2
    unfold Dk.renew
    rw [if_pos e]
    exact h.until _ (by omega)
  · rw [Dk.renew_ne e]; exact h

theorem gave_g_other {T : Tb} {i j : Nat} (h : j ≠ i) : (T.gave i).g j = T.g j := by
  unfold Tb.gave; split
  · rfl
  · exact put_other h
theorem gave_s_other {T : Tb} {i j : Nat} (h : j ≠ i) : (T.gave i).s j = T.s j := by
  unfold Tb.gave; split <;> exact put_other h
theorem gave_s_ne (T : Tb) (i : Nat) : (T.gave i).s i ≠ 1 := by
  unfold Tb.gave; split <;> simp [put_same]
end Go.Proofs.Ytfemfgpciogbeaa
